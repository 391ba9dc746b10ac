/- Joined: OwB, OwC, OwD, GrMC, GrHC. -/
import Derived.Test.YtfmhkicncgccjaaGreatSpB
import Derived.Test.YtfmhkicncgccjaaGreatBkToD
import Derived.Test.YtfmhkicncgccjaaGreatSpA
/- Copies that own their memory: lists and spots. -/
namespace Go.Proofs.YtfmhkicncgccjaaGreat
open Go.RowKit Go.Sort
set_option linter.unusedSimpArgs false
set_option linter.unusedVariables false

theorem Only.cell (w : World) (p : Addr) (v : Value) : Only (fun y => y = p.block) w (w.setCell p v) :=
  ⟨rfl, rfl, rfl, by simp [World.setCell], fun k hk hn => Go.Deep.blk_setCell_other _ _ _ _ hn⟩
theorem OwnL.setOther {w : World} {t : TypeId} {s : Nat} {a : Option Addr} {n : Nat} {f : Nat → Nat → Value} (h : OwnL w t s a n f) {p : Addr} (hne : ∀ b o, a = some ⟨b, o, none⟩ → b ≠ p.block) (v : Value) : OwnL (w.setCell p v) t s a n f :=
  h.only (Only.cell w p v) (fun x hx e => by obtain ⟨_, o, ha⟩ := hx; exact hne x o ha e)
theorem OwnL.sets7 {w : World} {t : TypeId} {d n size : Nat} {f : Nat → Nat → Value} (h : OwnL w t size (some ⟨d, 0, none⟩) n f) {b1 b2 : Nat} (h1 : d ≠ b1) (h2 : d ≠ b2) (v v0 v1 v2 v3 v4 v5 : Value) :
    OwnL (((((((w.setCell ⟨b2, 5, none⟩ v).setCell ⟨b1, 0, none⟩ v0).setCell ⟨b1, 1, none⟩ v1).setCell ⟨b1, 2, none⟩ v2).setCell ⟨b1, 3, none⟩ v3).setCell ⟨b1, 4, none⟩ v4).setCell ⟨b1, 5, none⟩ v5) t size (some ⟨d, 0, none⟩) n f :=
  have g : ∀ b o, (some ⟨d, 0, none⟩ : Option Addr) = some ⟨b, o, none⟩ → b ≠ b1 := fun b o e => by cases e; exact h1
  have g2 : ∀ b o, (some ⟨d, 0, none⟩ : Option Addr) = some ⟨b, o, none⟩ → b ≠ b2 := fun b o e => by cases e; exact h2
  ((((((h.setOther g2 v).setOther g v0).setOther g v1).setOther g v2).setOther g v3).setOther g v4).setOther g v5

theorem OwnL.sets14 {w : World} {t : TypeId} {d n size : Nat} {f : Nat → Nat → Value} (h : OwnL w t size (some ⟨d, 0, none⟩) n f) {b1 b2 : Nat} (h1 : d ≠ b1) (h2 : d ≠ b2) (v0 v1 v2 v3 v4 v5 v6 v7 v8 v9 v10 v11 v12 v13 : Value) :
    OwnL ((((((((((((((w.setCell ⟨b2, 0, none⟩ v0).setCell ⟨b2, 1, none⟩ v1).setCell ⟨b2, 2, none⟩ v2).setCell ⟨b2, 3, none⟩ v3).setCell ⟨b2, 4, none⟩ v4).setCell ⟨b2, 5, none⟩ v5).setCell ⟨b2, 6, none⟩ v6).setCell ⟨b1, 0, none⟩ v7).setCell ⟨b1, 1, none⟩ v8).setCell ⟨b1, 2, none⟩ v9).setCell ⟨b1, 3, none⟩ v10).setCell ⟨b1, 4, none⟩ v11).setCell ⟨b1, 5, none⟩ v12).setCell ⟨b1, 6, none⟩ v13) t size (some ⟨d, 0, none⟩) n f :=
  have g : ∀ b o, (some ⟨d, 0, none⟩ : Option Addr) = some ⟨b, o, none⟩ → b ≠ b1 := fun b o e => by cases e; exact h1
  have g2 : ∀ b o, (some ⟨d, 0, none⟩ : Option Addr) = some ⟨b, o, none⟩ → b ≠ b2 := fun b o e => by cases e; exact h2
  (((((((((((((h.setOther g2 v0).setOther g2 v1).setOther g2 v2).setOther g2 v3).setOther g2 v4).setOther g2 v5).setOther g2 v6).setOther g v7).setOther g v8).setOther g v9).setOther g v10).setOther g v11).setOther g v12).setOther g v13

theorem OwnL.sets7k {w : World} {t : TypeId} {d n size : Nat} {f : Nat → Nat → Value} (h : OwnL w t size (some ⟨d, 0, none⟩) n f) {b1 : Nat} (h1 : d ≠ b1) (o0 o1 o2 o3 o4 o5 o6 : Nat) (v0 v1 v2 v3 v4 v5 v6 : Value) :
    OwnL (((((((w.setCell ⟨b1, o0, none⟩ v0).setCell ⟨b1, o1, none⟩ v1).setCell ⟨b1, o2, none⟩ v2).setCell ⟨b1, o3, none⟩ v3).setCell ⟨b1, o4, none⟩ v4).setCell ⟨b1, o5, none⟩ v5).setCell ⟨b1, o6, none⟩ v6) t size (some ⟨d, 0, none⟩) n f :=
  have g : ∀ b o, (some ⟨d, 0, none⟩ : Option Addr) = some ⟨b, o, none⟩ → b ≠ b1 := fun b o e => by cases e; exact h1
  ((((((h.setOther g v0).setOther g v1).setOther g v2).setOther g v3).setOther g v4).setOther g v5).setOther g v6

set_option maxHeartbeats 400000 in
theorem toStringS_own (a : Option Addr) (cap : Nat) (ss : List ByteArray) (w : World) (hm : StrsAt w a ss) (hroom : ss.length ≤ 1048576) :
    Calls Tryz.prog 50 #[.slice a ss.length cap] w fun e w' => (∃ b, e = .returned (.slice (some ⟨b, 0, none⟩) ss.length ss.length) ∧ w.heap.size ≤ b ∧ b < w'.heap.size ∧ OwnL w' 9 1 (some ⟨b, 0, none⟩) ss.length (strF ss)) ∧ Below w.heap.size w w' := by
  have hmk := run_make_row' (P := Tryz.prog) 25 9 (.string .empty) 16 Tryz.underlying25 info9 rfl .i64 .i64 ss.length (by omega) (by omega)
  go_enter Tryz.func50, Tryz.ntmps50
  go_wp2
  go_loopw [4] (fun i wr => ∃ (k : Nat), k ≤ ss.length ∧ i = .int .i64 k ∧ wr.rowIs w.heap.size 9 ss.length (fun j => if j < k then .string (gs ss j) else .string .empty) ∧ Below w.heap.size w wr) (fun i _ => ss.length - (intOf i).toNat)
  case atStart =>
    exact ⟨0, Nat.zero_le _, rfl, (World.rowIs_made w _ _ _).congr (fun i _ => by simp), (Below.refl _ _).alloc (Nat.le_refl _) _⟩
  case round =>
    obtain ⟨k, hk, rfl, hrow, hbel⟩ := hrel
    clear hmk
    by_cases hlt : k < ss.length
    · obtain ⟨b, o, ha, hb, hc⟩ := (hm.later hbel).at hlt
      have hc1 := hrow.cell hlt
      have hfz := hrow.frozen k
      subst ha
      go_wp2
      go_roundw
      case rel =>
        refine ⟨k + 1, by omega, by go_num, (hrow.set k _).congr (fun i _ => ?_), hbel.setCell (Nat.le_refl _) _⟩
        by_cases e : i = k
        · subst e; simp
        · simp only [e, if_false]
          by_cases h : i < k
          · rw [if_pos h, if_pos (by omega)]
          · rw [if_neg h, if_neg (by omega)]
      case measure => simp [intOf]; omega
    · have : k = ss.length := by omega
      subst this
      go_wp2
      go_ret
      refine ⟨⟨w.heap.size, rfl, Nat.le_refl _, hrow.lt, OwnL.of_rowIs hrow (by omega) (fun k hk j hj => ?_)⟩, hbel⟩
      have hj0 : j = 0 := by omega
      subst hj0
      simp only [Nat.mul_one, Nat.add_zero]
      rw [if_pos hk]
      rfl

set_option maxHeartbeats 400000 in
theorem toClaimUseS_own (a : Option Addr) (cap : Nat) (us : List Use) (w : World) (hm : UsesAt w a us) (hroom : us.length ≤ 1048576) :
    Calls Tryz.prog 156 #[.slice a us.length cap] w fun e w' => (∃ b, e = .returned (.slice (some ⟨b, 0, none⟩) us.length us.length) ∧ w.heap.size ≤ b ∧ b < w'.heap.size ∧ OwnL w' 101 3 (some ⟨b, 0, none⟩) us.length (useF us)) ∧ Below w.heap.size w w' := by
  have hmk := make_uses us.length hroom
  go_enter Tryz.func156, Tryz.ntmps156
  go_wp2
  go_loopw [4] (fun i wr => ∃ (k : Nat) (g : Nat → Value), k ≤ us.length ∧ i = .int .i64 k ∧ wr.rowIs w.heap.size 101 (us.length * 3) g ∧ (∀ j, j < k → ∀ c, c < 3 → g (j * 3 + c) = useCell (gu us j) c) ∧ Below w.heap.size w wr) (fun i _ => us.length - (intOf i).toNat)
  case atStart =>
    exact ⟨0, _, Nat.zero_le _, rfl, rowIs_made3 w _ _ _ _ _, fun j hj => absurd hj (Nat.not_lt_zero _), (Below.refl _ _).alloc (Nat.le_refl _) _⟩
  case round =>
    obtain ⟨k, g, hk, rfl, hrow, hg, hbel⟩ := hrel
    clear hmk
    by_cases hlt : k < us.length
    · obtain ⟨b, o, ha, hb, hc0, hc1, hc2⟩ := (hm.later hbel).at hlt
      subst ha
      go_wp2_with fail
      refine (toClaimUse_any (gu us k) _).mono ?_
      rintro e w1 ⟨rfl, hb1⟩
      have hrow1 : w1.rowIs w.heap.size 101 (us.length * 3) g := hrow.of_block (hb1.block _ hrow.lt)
      have hq0 := hrow1.cell (i := k * 3) (by omega)
      have hq1 := hrow1.cell (i := k * 3 + 1) (by omega)
      have hq2 := hrow1.cell (i := k * 3 + 1 + 1) (by omega)
      have hf0 := hrow1.frozen (k * 3)
      have hf1 := hrow1.frozen (k * 3 + 1)
      have hf2 := hrow1.frozen (k * 3 + 1 + 1)
      unfold useV
      clear hc0 hc1 hc2
      go_wp2
      have hbel1 : Below w.heap.size w w1 := hbel.trans (hb1.mono hbel.size)
      go_roundw
      case rel =>
        refine ⟨k + 1, _, by omega, by go_num, ((hrow1.set (k * 3) _).set (k * 3 + 1) _).set (k * 3 + 2) _, ?_, ((hbel1.setCell (Nat.le_refl _) _).setCell (Nat.le_refl _) _).setCell (Nat.le_refl _) _⟩
        intro j hj c hc
        by_cases e : j = k
        · subst e
          match c, hc with
          | 0, _ => simp [useCell]
          | 1, _ => simp [useCell]
          | 2, _ => simp [useCell]
        · have := hg j (by omega) c hc
          rw [← this]
          rw [if_neg (by omega), if_neg (by omega), if_neg (by omega)]
      case measure => simp [intOf]; omega
    · have : k = us.length := by omega
      subst this
      go_wp2
      go_ret
      exact ⟨⟨w.heap.size, rfl, Nat.le_refl _, hrow.lt, OwnL.of_rowIs hrow (Nat.le_refl _) (fun k hk j hj => hg k hk j hj)⟩, hbel⟩

set_option maxHeartbeats 400000 in
theorem toClaimFoeS_own (a : Option Addr) (cap : Nat) (us : List Foe) (w : World) (hm : FoesAt w a us) (hroom : us.length ≤ 1048576) :
    Calls Tryz.prog 48 #[.slice a us.length cap] w fun e w' => (∃ b, e = .returned (.slice (some ⟨b, 0, none⟩) us.length us.length) ∧ w.heap.size ≤ b ∧ b < w'.heap.size ∧ OwnL w' 70 2 (some ⟨b, 0, none⟩) us.length (foeF us)) ∧ Below w.heap.size w w' := by
  have hmk := make_of (P := Tryz.prog) Tryz.underlying23 infoFoe us.length (by omega) (by omega)
  simp only [Value.cells] at hmk
  go_enter Tryz.func48, Tryz.ntmps48
  go_wp2
  go_loopw [4] (fun i wr => ∃ (k : Nat) (g : Nat → Value), k ≤ us.length ∧ i = .int .i64 k ∧ wr.rowIs w.heap.size 70 (us.length * 2) g ∧ (∀ j, j < k → ∀ c, c < 2 → g (j * 2 + c) = foeCell (gf us j) c) ∧ Below w.heap.size w wr) (fun i _ => us.length - (intOf i).toNat)
  case atStart =>
    exact ⟨0, _, Nat.zero_le _, rfl, rowIs_madeN w _ _ _, fun j hj => absurd hj (Nat.not_lt_zero _), (Below.refl _ _).alloc (Nat.le_refl _) _⟩
  case round =>
    obtain ⟨k, g, hk, rfl, hrow, hg, hbel⟩ := hrel
    clear hmk
    by_cases hlt : k < us.length
    · obtain ⟨b, o, ha, hb, hc0, hc1⟩ := (hm.later hbel).at hlt
      subst ha
      go_wp2_with fail
      refine (toClaimFoe_any (gf us k) _).mono ?_
      rintro e w1 ⟨rfl, hb1⟩
      have hrow1 : w1.rowIs w.heap.size 70 (us.length * 2) g := hrow.of_block (hb1.block _ hrow.lt)
      have hq0 := hrow1.cell (i := k * 2) (by omega)
      have hq1 := hrow1.cell (i := k * 2 + 1) (by omega)
      have hf0 := hrow1.frozen (k * 2)
      have hf1 := hrow1.frozen (k * 2 + 1)
      unfold foeV
      clear hc0 hc1
      go_wp2
      have hbel1 : Below w.heap.size w w1 := hbel.trans (hb1.mono hbel.size)
      go_roundw
      case rel =>
        refine ⟨k + 1, _, by omega, by go_num, (hrow1.set (k * 2) _).set (k * 2 + 1) _, ?_, (hbel1.setCell (Nat.le_refl _) _).setCell (Nat.le_refl _) _⟩
        intro j hj c hc
        by_cases e : j = k
        · subst e
          match c, hc with
          | 0, _ => simp [foeCell]
          | 1, _ => simp [foeCell]
        · have := hg j (by omega) c hc
          rw [← this]
          rw [if_neg (by omega), if_neg (by omega)]
      case measure => simp [intOf]; omega
    · have : k = us.length := by omega
      subst this
      go_wp2
      go_ret
      exact ⟨⟨w.heap.size, rfl, Nat.le_refl _, hrow.lt, OwnL.of_rowIs hrow (Nat.le_refl _) (fun k hk j hj => hg k hk j hj)⟩, hbel⟩

set_option maxHeartbeats 1000000 in
theorem toClaimSpot_own (s : Spot) (m : Option Addr) (c : Nat) (w : World) (hm : StrsAt w m s.may) (hroom : s.may.length ≤ 1048576) :
    Calls Tryz.prog 90 #[spotV s m c] w fun e w' => (∃ d, e = .returned (spotV s (some ⟨d, 0, none⟩) s.may.length) ∧ w.heap.size < d ∧ d < w'.heap.size ∧ OwnL w' 9 1 (some ⟨d, 0, none⟩) s.may.length (strF s.may)) ∧ Below w.heap.size w w' := by
  unfold spotV
  go_enter Tryz.func90, Tryz.ntmps90
  go_wp2_with fail
  have b0 : Below w.heap.size w (((w.alloc (.cells #[.string s.name, .int .i64 s.cap, .int .i64 s.least, .int .i64 s.most, .slice m s.may.length c] 105)).alloc (.cells #[.string .empty, .int .i64 0, .int .i64 0, .int .i64 0, .slice none 0 0] 72)).alloc (.cells #[.string s.name, .int .i64 s.cap, .int .i64 s.least, .int .i64 s.most, .slice none 0 0] 72)) :=
    (((Below.refl _ _).alloc (Nat.le_refl _) _).alloc (by simp) _).alloc (by simp; omega) _
  have z0 : Row (((w.alloc (.cells #[.string s.name, .int .i64 s.cap, .int .i64 s.least, .int .i64 s.most, .slice m s.may.length c] 105)).alloc (.cells #[.string .empty, .int .i64 0, .int .i64 0, .int .i64 0, .slice none 0 0] 72)).alloc (.cells #[.string s.name, .int .i64 s.cap, .int .i64 s.least, .int .i64 s.most, .slice none 0 0] 72)) (w.heap.size + 1) 72 [.string .empty, .int .i64 0, .int .i64 0, .int .i64 0, .slice none 0 0] := by
    have := (Row.new (w.alloc (.cells #[.string s.name, .int .i64 s.cap, .int .i64 s.least, .int .i64 s.most, .slice m s.may.length c] 105)) 72 [.string .empty, .int .i64 0, .int .i64 0, .int .i64 0, .slice none 0 0]).alloc (.cells #[.string s.name, .int .i64 s.cap, .int .i64 s.least, .int .i64 s.most, .slice none 0 0] 72)
    simpa using this
  have o0 : Row (((w.alloc (.cells #[.string s.name, .int .i64 s.cap, .int .i64 s.least, .int .i64 s.most, .slice m s.may.length c] 105)).alloc (.cells #[.string .empty, .int .i64 0, .int .i64 0, .int .i64 0, .slice none 0 0] 72)).alloc (.cells #[.string s.name, .int .i64 s.cap, .int .i64 s.least, .int .i64 s.most, .slice none 0 0] 72)) (w.heap.size + 1 + 1) 72 [.string s.name, .int .i64 s.cap, .int .i64 s.least, .int .i64 s.most, .slice none 0 0] := by
    have := Row.new ((w.alloc (.cells #[.string s.name, .int .i64 s.cap, .int .i64 s.least, .int .i64 s.most, .slice m s.may.length c] 105)).alloc (.cells #[.string .empty, .int .i64 0, .int .i64 0, .int .i64 0, .slice none 0 0] 72)) 72 [.string s.name, .int .i64 s.cap, .int .i64 s.least, .int .i64 s.most, .slice none 0 0]
    simpa using this
  refine (toStringS_own m c s.may _ (hm.later b0) hroom).mono ?_
  rintro e w1 ⟨⟨d, rfl, hd, hdx, st⟩, hb⟩
  have hd' : w.heap.size + 1 + 1 < d := by simp at hd; omega
  have b1 := b0.trans (hb.mono b0.size)
  have z1 := z0.later hb
  have o1 := o0.later hb
  clear b0 z0 o0 hb hd
  have g0 := o1.cell 0 rfl
  have g1 := o1.cell 1 rfl
  have g2 := o1.cell 2 rfl
  have g3 := o1.cell 3 rfl
  have g4 := o1.cell 4 rfl
  have f4 := o1.frozen 4
  have r0 := z1.cell 0 rfl
  have r1 := z1.cell 1 rfl
  have r2 := z1.cell 2 rfl
  have r3 := z1.cell 3 rfl
  have r4 := z1.cell 4 rfl
  have k0 := z1.frozen 0
  have k1 := z1.frozen 1
  have k2 := z1.frozen 2
  have k3 := z1.frozen 3
  have k4 := z1.frozen 4
  have hne2 : w.heap.size + 1 ≠ w.heap.size + 1 + 1 := by omega
  go_wp2
  refine bodyPost_ret (v := .agg #[.string s.name, .int .i64 s.cap, .int .i64 s.least, .int .i64 s.most, .slice (some ⟨d, 0, none⟩) s.may.length s.may.length])
    (by simp [results, Tryz.results90, go_sem, r0, r1, r2, r3, r4]) rfl ⟨⟨d, rfl, by omega, by simp only [Go.Deep.nblk_setCell]; exact hdx, ?_⟩, ?_⟩
  · have e1 : ∀ b o, (some ⟨d, 0, none⟩ : Option Addr) = some ⟨b, o, none⟩ → b ≠ w.heap.size + 1 := fun b o h => by cases h; omega
    have e2 : ∀ b o, (some ⟨d, 0, none⟩ : Option Addr) = some ⟨b, o, none⟩ → b ≠ w.heap.size + 1 + 1 := fun b o h => by cases h; omega
    exact (((((OwnL.setOther st e2 _).setOther e1 _).setOther e1 _).setOther e1 _).setOther e1 _).setOther e1 _
  · exact (((((b1.setCell (by simp; omega) _).setCell (by simp) _).setCell (by simp) _).setCell (by simp) _).setCell (by simp) _).setCell (by simp) _

set_option maxHeartbeats 1000000 in
theorem toClaimSpotS_own (a : Option Addr) (cap : Nat) (us : List Spot) (w : World) (hm : SpotsAt w a us) (hroom : us.length ≤ 1048576) (hrooms : ∀ s ∈ us, s.may.length ≤ 1048576) :
    Calls Tryz.prog 49 #[.slice a us.length cap] w fun e w' => (∃ b A C, e = .returned (.slice (some ⟨b, 0, none⟩) us.length us.length) ∧ w.heap.size ≤ b ∧ OwnSpots w' (some ⟨b, 0, none⟩) us A C ∧ ∀ x, InSp (some ⟨b, 0, none⟩) us A x → w.heap.size ≤ x) ∧ Below w.heap.size w w' := by
  have hmk := make_of (P := Tryz.prog) Tryz.underlying24 infoSpot us.length (by omega) (by omega)
  simp only [Value.cells] at hmk
  go_enter Tryz.func49, Tryz.ntmps49
  go_wp2
  go_loopw [4] (fun i wr => ∃ (k : Nat) (g : Nat → Value) (D : Nat → Nat), k ≤ us.length ∧ i = .int .i64 k ∧ wr.rowIs w.heap.size 72 (us.length * 5) g ∧ (∀ j, j < k → ∀ c, c < 5 → g (j * 5 + c) = spotCell (gp us j) (some ⟨D j, 0, none⟩) (gp us j).may.length c) ∧
    (∀ j, j < k → (w.heap.size < D j ∧ D j < wr.heap.size) ∧ OwnL wr 9 1 (some ⟨D j, 0, none⟩) (gp us j).may.length (strF (gp us j).may)) ∧ (∀ i j, i < j → j < k → D i < D j) ∧ Below w.heap.size w wr) (fun i _ => us.length - (intOf i).toNat)
  case atStart =>
    exact ⟨0, _, fun _ => 0, Nat.zero_le _, rfl, rowIs_madeN w _ _ _, fun j hj => absurd hj (Nat.not_lt_zero _), fun j hj => absurd hj (Nat.not_lt_zero _), fun i j _ hj => absurd hj (Nat.not_lt_zero _), (Below.refl _ _).alloc (Nat.le_refl _) _⟩
  case round wr =>
    obtain ⟨k, g, D, hk, rfl, hrow, hg, hD, hO, hbel⟩ := hrel
    have HO : Hid (∀ i j, i < j → j < k → D i < D j) := hO
    have HD : Hid (∀ j, j < k → (w.heap.size < D j ∧ D j < wr.heap.size) ∧ OwnL wr 9 1 (some ⟨D j, 0, none⟩) (gp us j).may.length (strF (gp us j).may)) := hD
    clear hO hD
    have HG : Hid (∀ j, j < k → ∀ c, c < 5 → g (j * 5 + c) = spotCell (gp us j) (some ⟨D j, 0, none⟩) (gp us j).may.length c) := hg
    clear hmk hg
    by_cases hlt : k < us.length
    · obtain ⟨b, o, m, c, ha, hb, hc0, hc1, hc2, hc3, hc4, hst⟩ := (hm.later hbel).at hlt
      subst ha
      go_wp2_with fail
      refine (toClaimSpot_own (gp us k) m c _ hst (hrooms _ (gp_mem hlt))).mono ?_
      rintro e w1 ⟨⟨d, rfl, hd, hdx, st⟩, hb1⟩
      have hrow1 : w1.rowIs w.heap.size 72 (us.length * 5) g := hrow.of_block (hb1.block _ hrow.lt)
      have hq0 := hrow1.cell (i := k * 5) (by omega)
      have hq1 := hrow1.cell (i := k * 5 + 1) (by omega)
      have hq2 := hrow1.cell (i := k * 5 + 2) (by omega)
      have hq3 := hrow1.cell (i := k * 5 + 3) (by omega)
      have hq4 := hrow1.cell (i := k * 5 + 4) (by omega)
      have hf0 := hrow1.frozen (k * 5)
      have hf1 := hrow1.frozen (k * 5 + 1)
      have hf2 := hrow1.frozen (k * 5 + 2)
      have hf3 := hrow1.frozen (k * 5 + 3)
      have hf4 := hrow1.frozen (k * 5 + 4)
      have hdw : w.heap.size < d := Nat.lt_of_le_of_lt hbel.size hd
      unfold spotV
      clear hc0 hc1 hc2 hc3 hc4
      go_wp2
      have hbel1 : Below w.heap.size w w1 := hbel.trans (hb1.mono hbel.size)
      go_roundw
      case rel =>
        refine ⟨k + 1, _, fun j => if j = k then d else D j, by omega, by go_num, ((((hrow1.set (k * 5) _).set (k * 5 + 1) _).set (k * 5 + 2) _).set (k * 5 + 3) _).set (k * 5 + 4) _, ?_, ?_, ?_,
          ((((hbel1.setCell (Nat.le_refl _) _).setCell (Nat.le_refl _) _).setCell (Nat.le_refl _) _).setCell (Nat.le_refl _) _).setCell (Nat.le_refl _) _⟩
        · intro j hj c hc
          by_cases e : j = k
          · subst e
            match c, hc with
            | 0, _ => simp [spotCell]
            | 1, _ => simp [spotCell]
            | 2, _ => simp [spotCell]
            | 3, _ => simp [spotCell]
            | 4, _ => simp [spotCell]
          · have := HG.out j (by omega) c hc
            dsimp only
            rw [if_neg e, ← this]
            rw [if_neg (by omega), if_neg (by omega), if_neg (by omega), if_neg (by omega), if_neg (by omega)]
        · intro j hj
          by_cases e : j = k
          · subst e
            dsimp only
            rw [if_pos rfl]
            have e1 : ∀ b o, (some ⟨d, 0, none⟩ : Option Addr) = some ⟨b, o, none⟩ → b ≠ w.heap.size := fun b o h => by cases h; omega
            exact ⟨⟨hdw, by simp only [Go.Deep.nblk_setCell]; exact hdx⟩, ((((OwnL.setOther st e1 _).setOther e1 _).setOther e1 _).setOther e1 _).setOther e1 _⟩
          · dsimp only
            rw [if_neg e]
            obtain ⟨⟨h1, h1x⟩, h2⟩ := HD.out j (by omega)
            have e1 : ∀ b o, (some ⟨D j, 0, none⟩ : Option Addr) = some ⟨b, o, none⟩ → b ≠ w.heap.size := fun b o h => by cases h; omega
            exact ⟨⟨h1, by simp only [Go.Deep.nblk_setCell]; exact Nat.lt_of_lt_of_le h1x hb1.size⟩, ((((OwnL.setOther (h2.later hb1) e1 _).setOther e1 _).setOther e1 _).setOther e1 _).setOther e1 _⟩
        · intro i j hij hj
          dsimp only
          by_cases e : j = k
          · subst e
            rw [if_pos rfl, if_neg (by omega)]
            exact Nat.lt_trans (HD.out i hij).1.2 hd
          · rw [if_neg e, if_neg (by omega)]
            exact HO.out i j hij (by omega)
      case measure => simp [intOf]; omega
    · have : k = us.length := by omega
      subst this
      go_wp2
      go_ret
      have HD' := HD.out
      have HO' := HO.out
      refine ⟨⟨w.heap.size, fun j => some ⟨D j, 0, none⟩, fun j => (gp us j).may.length, rfl, Nat.le_refl _, ⟨OwnL.of_rowIs hrow (Nat.le_refl _) (fun k hk j hj => HG.out k hk j hj), fun k hk => (HD' k hk).2, fun k hk => Nat.le_refl _, fun k hk x hx hx' => ?_, fun i j hi hj hij x hx hx' => ?_⟩, fun x hx => ?_⟩, hbel⟩
      · have e1 := inSlot_some hx
        have e2 := inSlot_some hx'
        have := (HD' k hk).1.1
        omega
      · have e1 := inSlot_some hx
        have e2 := inSlot_some hx'
        rcases Nat.lt_or_gt_of_ne hij with h | h
        · have := HO' i j h hj; omega
        · have := HO' j i h hi; omega
      · rcases hx with hx | ⟨k, hk, hx⟩
        · have := inSlot_some hx; omega
        · have := inSlot_some hx
          have := (HD' k hk).1.1
          omega

end Go.Proofs.YtfmhkicncgccjaaGreat

/- Copies that own their memory: wants and parts. -/
namespace Go.Proofs.YtfmhkicncgccjaaGreat
open Go.RowKit Go.Sort
set_option linter.unusedSimpArgs false
set_option linter.unusedVariables false

/-- A want's lists, each in a block of its own. -/
structure OwnW (w : World) (x : Want) (b2 b3 b4 b5 : Nat) : Prop where
  stuffs : OwnL w 9 1 (some ⟨b2, 0, none⟩) x.stuffs.length (strF x.stuffs)
  uses : OwnL w 101 3 (some ⟨b3, 0, none⟩) x.uses.length (useF x.uses)
  opens : OwnL w 9 1 (some ⟨b4, 0, none⟩) x.opens.length (strF x.opens)
  shuts : OwnL w 9 1 (some ⟨b5, 0, none⟩) x.shuts.length (strF x.shuts)
theorem OwnW.later {w w' : World} {x : Want} {b2 b3 b4 b5 : Nat} (h : OwnW w x b2 b3 b4 b5) (hb : Below w.heap.size w w') : OwnW w' x b2 b3 b4 b5 := ⟨h.stuffs.later hb, h.uses.later hb, h.opens.later hb, h.shuts.later hb⟩
theorem OwnW.in_ {w : World} {x : Want} {b2 b3 b4 b5 : Nat} (h : OwnW w x b2 b3 b4 b5) : WantIn w x (some ⟨b2, 0, none⟩) (some ⟨b3, 0, none⟩) (some ⟨b4, 0, none⟩) (some ⟨b5, 0, none⟩) := ⟨h.stuffs.rowAt, h.uses.rowAt, h.opens.rowAt, h.shuts.rowAt⟩
theorem OwnW.sets7k {w : World} {x : Want} {d2 d3 d4 d5 : Nat} (h : OwnW w x d2 d3 d4 d5) {b1 : Nat} (h2 : d2 ≠ b1) (h3 : d3 ≠ b1) (h4 : d4 ≠ b1) (h5 : d5 ≠ b1) (o0 o1 o2 o3 o4 o5 o6 : Nat) (v0 v1 v2 v3 v4 v5 v6 : Value) :
    OwnW (((((((w.setCell ⟨b1, o0, none⟩ v0).setCell ⟨b1, o1, none⟩ v1).setCell ⟨b1, o2, none⟩ v2).setCell ⟨b1, o3, none⟩ v3).setCell ⟨b1, o4, none⟩ v4).setCell ⟨b1, o5, none⟩ v5).setCell ⟨b1, o6, none⟩ v6) x d2 d3 d4 d5 :=
  ⟨OwnL.sets7k h.stuffs h2 _ _ _ _ _ _ _ _ _ _ _ _ _ _, OwnL.sets7k h.uses h3 _ _ _ _ _ _ _ _ _ _ _ _ _ _, OwnL.sets7k h.opens h4 _ _ _ _ _ _ _ _ _ _ _ _ _ _, OwnL.sets7k h.shuts h5 _ _ _ _ _ _ _ _ _ _ _ _ _ _⟩
theorem four_le (D : Nat → Nat) (c : Nat) (h1 : 2 ≤ c) (h2 : c ≤ 5) (a : D 2 < D 3) (b : D 3 < D 4) (d : D 4 < D 5) : D 2 ≤ D c ∧ D c ≤ D 5 := by
  match c, h1, h2 with
  | 2, _, _ => omega
  | 3, _, _ => omega
  | 4, _, _ => omega
  | 5, _, _ => omega
theorem four_ne (D : Nat → Nat) {c d : Nat} (h1 : c < 4) (h2 : d < 4) (h : c ≠ d) (a : D 2 < D 3) (b : D 3 < D 4) (e : D 4 < D 5) : D (c + 2) ≠ D (d + 2) := by
  match c, h1, d, h2 with
  | 0, _, 0, _ => exact absurd rfl h
  | 0, _, 1, _ => simp only [Nat.reduceAdd]; omega
  | 0, _, 2, _ => simp only [Nat.reduceAdd]; omega
  | 0, _, 3, _ => simp only [Nat.reduceAdd]; omega
  | 1, _, 0, _ => simp only [Nat.reduceAdd]; omega
  | 1, _, 1, _ => exact absurd rfl h
  | 1, _, 2, _ => simp only [Nat.reduceAdd]; omega
  | 1, _, 3, _ => simp only [Nat.reduceAdd]; omega
  | 2, _, 0, _ => simp only [Nat.reduceAdd]; omega
  | 2, _, 1, _ => simp only [Nat.reduceAdd]; omega
  | 2, _, 2, _ => exact absurd rfl h
  | 2, _, 3, _ => simp only [Nat.reduceAdd]; omega
  | 3, _, 0, _ => simp only [Nat.reduceAdd]; omega
  | 3, _, 1, _ => simp only [Nat.reduceAdd]; omega
  | 3, _, 2, _ => simp only [Nat.reduceAdd]; omega
  | 3, _, 3, _ => exact absurd rfl h

set_option maxHeartbeats 2000000 in
theorem toClaimWant_own (x : Want) (a2 a3 a4 a5 : Option Addr) (c2 c3 c4 c5 : Nat) (w : World) (hin : WantIn w x a2 a3 a4 a5) (hr : WantRoom x) :
    Calls Tryz.prog 131 #[wantW x a2 a3 a4 a5 c2 c3 c4 c5] w fun e w' => (∃ b2 b3 b4 b5, e = .returned (wantW x (some ⟨b2, 0, none⟩) (some ⟨b3, 0, none⟩) (some ⟨b4, 0, none⟩) (some ⟨b5, 0, none⟩) x.stuffs.length x.uses.length x.opens.length x.shuts.length) ∧
      (w.heap.size < b2 ∧ b2 < b3 ∧ b3 < b4 ∧ b4 < b5 ∧ b5 < w'.heap.size) ∧ OwnW w' x b2 b3 b4 b5) ∧ Below w.heap.size w w' := by
  unfold wantW
  go_enter Tryz.func131, Tryz.ntmps131
  go_wp2_with fail
  have b0 : Below w.heap.size w (((w.alloc (.cells #[.int .i64 x.number, .int .i64 x.kind, .slice a2 x.stuffs.length c2, .slice a3 x.uses.length c3, .slice a4 x.opens.length c4, .slice a5 x.shuts.length c5] 109)).alloc (.cells #[.int .i64 0, .int .i64 0, .slice none 0 0, .slice none 0 0, .slice none 0 0, .slice none 0 0] 38)).alloc (.cells #[.int .i64 x.number, .int .i64 x.kind, .slice none 0 0, .slice none 0 0, .slice none 0 0, .slice none 0 0] 38)) :=
    (((Below.refl _ _).alloc (Nat.le_refl _) _).alloc (by simp) _).alloc (by simp; omega) _
  have i0 : Row (((w.alloc (.cells #[.int .i64 x.number, .int .i64 x.kind, .slice a2 x.stuffs.length c2, .slice a3 x.uses.length c3, .slice a4 x.opens.length c4, .slice a5 x.shuts.length c5] 109)).alloc (.cells #[.int .i64 0, .int .i64 0, .slice none 0 0, .slice none 0 0, .slice none 0 0, .slice none 0 0] 38)).alloc (.cells #[.int .i64 x.number, .int .i64 x.kind, .slice none 0 0, .slice none 0 0, .slice none 0 0, .slice none 0 0] 38)) w.heap.size 109 [.int .i64 x.number, .int .i64 x.kind, .slice a2 x.stuffs.length c2, .slice a3 x.uses.length c3, .slice a4 x.opens.length c4, .slice a5 x.shuts.length c5] := ((Row.new _ _ _).alloc _).alloc _
  have z0 : Row (((w.alloc (.cells #[.int .i64 x.number, .int .i64 x.kind, .slice a2 x.stuffs.length c2, .slice a3 x.uses.length c3, .slice a4 x.opens.length c4, .slice a5 x.shuts.length c5] 109)).alloc (.cells #[.int .i64 0, .int .i64 0, .slice none 0 0, .slice none 0 0, .slice none 0 0, .slice none 0 0] 38)).alloc (.cells #[.int .i64 x.number, .int .i64 x.kind, .slice none 0 0, .slice none 0 0, .slice none 0 0, .slice none 0 0] 38)) (w.heap.size + 1) 38 [.int .i64 0, .int .i64 0, .slice none 0 0, .slice none 0 0, .slice none 0 0, .slice none 0 0] := by
    have := (Row.new (w.alloc (.cells #[.int .i64 x.number, .int .i64 x.kind, .slice a2 x.stuffs.length c2, .slice a3 x.uses.length c3, .slice a4 x.opens.length c4, .slice a5 x.shuts.length c5] 109)) 38 [.int .i64 0, .int .i64 0, .slice none 0 0, .slice none 0 0, .slice none 0 0, .slice none 0 0]).alloc (.cells #[.int .i64 x.number, .int .i64 x.kind, .slice none 0 0, .slice none 0 0, .slice none 0 0, .slice none 0 0] 38)
    simpa using this
  have o0 : Row (((w.alloc (.cells #[.int .i64 x.number, .int .i64 x.kind, .slice a2 x.stuffs.length c2, .slice a3 x.uses.length c3, .slice a4 x.opens.length c4, .slice a5 x.shuts.length c5] 109)).alloc (.cells #[.int .i64 0, .int .i64 0, .slice none 0 0, .slice none 0 0, .slice none 0 0, .slice none 0 0] 38)).alloc (.cells #[.int .i64 x.number, .int .i64 x.kind, .slice none 0 0, .slice none 0 0, .slice none 0 0, .slice none 0 0] 38)) (w.heap.size + 1 + 1) 38 [.int .i64 x.number, .int .i64 x.kind, .slice none 0 0, .slice none 0 0, .slice none 0 0, .slice none 0 0] := by
    have := Row.new ((w.alloc (.cells #[.int .i64 x.number, .int .i64 x.kind, .slice a2 x.stuffs.length c2, .slice a3 x.uses.length c3, .slice a4 x.opens.length c4, .slice a5 x.shuts.length c5] 109)).alloc (.cells #[.int .i64 0, .int .i64 0, .slice none 0 0, .slice none 0 0, .slice none 0 0, .slice none 0 0] 38)) 38 [.int .i64 x.number, .int .i64 x.kind, .slice none 0 0, .slice none 0 0, .slice none 0 0, .slice none 0 0]
    simpa using this
  refine (toStringS_own a2 c2 x.stuffs _ (hin.later b0).stuffs hr.stuffs).mono ?_
  rintro e w1 ⟨⟨d2, rfl, hd2, hx2, s2⟩, hb⟩
  have b1 := b0.trans (hb.mono b0.size)
  have i1 := i0.later hb
  have z1 := z0.later hb
  have o1 := o0.later hb
  clear b0 i0 z0 o0 hb
  have hne : w.heap.size ≠ w.heap.size + 1 + 1 := by omega
  have hd2' : w.heap.size + 1 + 1 < d2 := by simp at hd2; omega
  have q3 := i1.cell 3 rfl
  have f2 := o1.frozen 2
  have g2 := o1.cell 2 rfl
  go_wp2_with fail
  have b1' := b1.setCell (p := ⟨w.heap.size + 1 + 1, 2, none⟩) (by simp; omega) (.slice (some ⟨d2, 0, none⟩) x.stuffs.length x.stuffs.length)
  have i1' := i1.other (a := ⟨w.heap.size + 1 + 1, 2, none⟩) hne (.slice (some ⟨d2, 0, none⟩) x.stuffs.length x.stuffs.length)
  have z1' := z1.other (a := ⟨w.heap.size + 1 + 1, 2, none⟩) (by simp) (.slice (some ⟨d2, 0, none⟩) x.stuffs.length x.stuffs.length)
  have o1' := o1.set 2 (.slice (some ⟨d2, 0, none⟩) x.stuffs.length x.stuffs.length)
  have s2' := OwnL.setOther s2 (p := ⟨w.heap.size + 1 + 1, 2, none⟩) (fun b o h => by cases h; exact Nat.ne_of_gt hd2') (.slice (some ⟨d2, 0, none⟩) x.stuffs.length x.stuffs.length)
  refine (toClaimUseS_own a3 c3 x.uses _ (hin.later b1').uses hr.uses).mono ?_
  clear q3 f2 g2
  rintro e w2 ⟨⟨d3, rfl, hd3, hx3, s3⟩, hb⟩
  have h23 : d2 < d3 := by rw [Go.Deep.nblk_setCell] at hd3; omega
  have hd3' : w.heap.size + 1 + 1 < d3 := by have := o1'.lt; omega
  have b2 := b1'.trans (hb.mono b1'.size)
  have i2 := i1'.later hb
  have z2 := z1'.later hb
  have o2 := o1'.later hb
  have s2 := OwnL.later s2' hb
  clear b1 i1 z1 o1 b1' i1' z1' o1' hb s2'
  have q4 := i2.cell 4 rfl
  have f3 := o2.frozen 3
  have g3 := o2.cell 3 rfl
  go_wp2_with fail
  have b2' := b2.setCell (p := ⟨w.heap.size + 1 + 1, 3, none⟩) (by simp; omega) (.slice (some ⟨d3, 0, none⟩) x.uses.length x.uses.length)
  have i2' := i2.other (a := ⟨w.heap.size + 1 + 1, 3, none⟩) hne (.slice (some ⟨d3, 0, none⟩) x.uses.length x.uses.length)
  have z2' := z2.other (a := ⟨w.heap.size + 1 + 1, 3, none⟩) (by simp) (.slice (some ⟨d3, 0, none⟩) x.uses.length x.uses.length)
  have o2' := o2.set 3 (.slice (some ⟨d3, 0, none⟩) x.uses.length x.uses.length)
  have s2' := OwnL.setOther s2 (p := ⟨w.heap.size + 1 + 1, 3, none⟩) (fun b o h => by cases h; exact Nat.ne_of_gt hd2') (.slice (some ⟨d3, 0, none⟩) x.uses.length x.uses.length)
  have s3' := OwnL.setOther s3 (p := ⟨w.heap.size + 1 + 1, 3, none⟩) (fun b o h => by cases h; exact Nat.ne_of_gt hd3') (.slice (some ⟨d3, 0, none⟩) x.uses.length x.uses.length)
  refine (toStringS_own a4 c4 x.opens _ (hin.later b2').opens hr.opens).mono ?_
  clear q4 f3 g3
  rintro e w3 ⟨⟨d4, rfl, hd4, hx4, s4⟩, hb⟩
  have h34 : d3 < d4 := by rw [Go.Deep.nblk_setCell] at hd4; omega
  have hd4' : w.heap.size + 1 + 1 < d4 := by have := o2'.lt; omega
  have b3 := b2'.trans (hb.mono b2'.size)
  have i3 := i2'.later hb
  have z3 := z2'.later hb
  have o3 := o2'.later hb
  have s2 := OwnL.later s2' hb
  have s3 := OwnL.later s3' hb
  clear b2 i2 z2 o2 b2' i2' z2' o2' hb s2' s3'
  have q5 := i3.cell 5 rfl
  have f4 := o3.frozen 4
  have g4 := o3.cell 4 rfl
  go_wp2_with fail
  have b3' := b3.setCell (p := ⟨w.heap.size + 1 + 1, 4, none⟩) (by simp; omega) (.slice (some ⟨d4, 0, none⟩) x.opens.length x.opens.length)
  have i3' := i3.other (a := ⟨w.heap.size + 1 + 1, 4, none⟩) hne (.slice (some ⟨d4, 0, none⟩) x.opens.length x.opens.length)
  have z3' := z3.other (a := ⟨w.heap.size + 1 + 1, 4, none⟩) (by simp) (.slice (some ⟨d4, 0, none⟩) x.opens.length x.opens.length)
  have o3' := o3.set 4 (.slice (some ⟨d4, 0, none⟩) x.opens.length x.opens.length)
  have s2' := OwnL.setOther s2 (p := ⟨w.heap.size + 1 + 1, 4, none⟩) (fun b o h => by cases h; exact Nat.ne_of_gt hd2') (.slice (some ⟨d4, 0, none⟩) x.opens.length x.opens.length)
  have s3' := OwnL.setOther s3 (p := ⟨w.heap.size + 1 + 1, 4, none⟩) (fun b o h => by cases h; exact Nat.ne_of_gt hd3') (.slice (some ⟨d4, 0, none⟩) x.opens.length x.opens.length)
  have s4' := OwnL.setOther s4 (p := ⟨w.heap.size + 1 + 1, 4, none⟩) (fun b o h => by cases h; exact Nat.ne_of_gt hd4') (.slice (some ⟨d4, 0, none⟩) x.opens.length x.opens.length)
  refine (toStringS_own a5 c5 x.shuts _ (hin.later b3').shuts hr.shuts).mono ?_
  clear q5 f4 g4
  rintro e w4 ⟨⟨d5, rfl, hd5, hx5, s5⟩, hb⟩
  have h45 : d4 < d5 := by rw [Go.Deep.nblk_setCell] at hd5; omega
  have hd5' : w.heap.size + 1 + 1 < d5 := by have := o3'.lt; omega
  have b4 := b3'.trans (hb.mono b3'.size)
  have i4 := i3'.later hb
  have z4 := z3'.later hb
  have o4 := o3'.later hb
  have s2 := OwnL.later s2' hb
  have s3 := OwnL.later s3' hb
  have s4 := OwnL.later s4' hb
  clear b3 i3 z3 o3 b3' i3' z3' o3' hb s2' s3' s4'
  have f5 := o4.frozen 5
  have g5 := o4.cell 5 rfl
  have g0 := o4.cell 0 rfl
  have g1 := o4.cell 1 rfl
  have g2 := o4.cell 2 rfl
  have g3 := o4.cell 3 rfl
  have g4 := o4.cell 4 rfl
  have r0 := z4.cell 0 rfl
  have r1 := z4.cell 1 rfl
  have r2 := z4.cell 2 rfl
  have r3 := z4.cell 3 rfl
  have r4 := z4.cell 4 rfl
  have r5 := z4.cell 5 rfl
  have k0 := z4.frozen 0
  have k1 := z4.frozen 1
  have k2 := z4.frozen 2
  have k3 := z4.frozen 3
  have k4 := z4.frozen 4
  have k5 := z4.frozen 5
  have hne2 : w.heap.size + 1 ≠ w.heap.size + 1 + 1 := by omega
  go_wp2
  refine bodyPost_ret (v := .agg #[.int .i64 x.number, .int .i64 x.kind, .slice (some ⟨d2, 0, none⟩) x.stuffs.length x.stuffs.length, .slice (some ⟨d3, 0, none⟩) x.uses.length x.uses.length, .slice (some ⟨d4, 0, none⟩) x.opens.length x.opens.length, .slice (some ⟨d5, 0, none⟩) x.shuts.length x.shuts.length])
    (by simp [results, Tryz.results131, go_sem, r0, r1, r2, r3, r4, r5]) rfl ⟨⟨d2, d3, d4, d5, rfl, ⟨by omega, by omega, by omega, by omega, by simp only [Go.Deep.nblk_setCell]; exact hx5⟩, ⟨?_, ?_, ?_, ?_⟩⟩, ?_⟩
  · exact OwnL.sets7 s2 (by omega) (by omega) _ _ _ _ _ _ _
  · exact OwnL.sets7 s3 (by omega) (by omega) _ _ _ _ _ _ _
  · exact OwnL.sets7 s4 (by omega) (by omega) _ _ _ _ _ _ _
  · exact OwnL.sets7 s5 (by omega) (by omega) _ _ _ _ _ _ _
  · exact ((((((b4.setCell (by simp; omega) _).setCell (by simp) _).setCell (by simp) _).setCell (by simp) _).setCell (by simp) _).setCell (by simp) _).setCell (by simp) _

set_option maxHeartbeats 1000000 in
theorem toClaimPart_own (p : Part) (a2 a3 a4 a5 : Option Addr) (c2 c3 c4 c5 : Nat) (w : World) (hin : WantIn w p.want a2 a3 a4 a5) (hr : WantRoom p.want) :
    Calls Tryz.prog 91 #[partV p a2 a3 a4 a5 c2 c3 c4 c5] w fun e w' => (∃ b2 b3 b4 b5, e = .returned (partV p (some ⟨b2, 0, none⟩) (some ⟨b3, 0, none⟩) (some ⟨b4, 0, none⟩) (some ⟨b5, 0, none⟩) p.want.stuffs.length p.want.uses.length p.want.opens.length p.want.shuts.length) ∧
      (w.heap.size < b2 ∧ b2 < b3 ∧ b3 < b4 ∧ b4 < b5 ∧ b5 < w'.heap.size) ∧ OwnW w' p.want b2 b3 b4 b5) ∧ Below w.heap.size w w' := by
  unfold partV
  go_enter Tryz.func91, Tryz.ntmps91
  go_wp2_with fail
  have b0 : Below w.heap.size w (((w.alloc (.cells #[.int .i64 p.want.number, .int .i64 p.want.kind, .slice a2 p.want.stuffs.length c2, .slice a3 p.want.uses.length c3, .slice a4 p.want.opens.length c4, .slice a5 p.want.shuts.length c5, .bool p.stopped] 111)).alloc (.cells #[.int .i64 0, .int .i64 0, .slice none 0 0, .slice none 0 0, .slice none 0 0, .slice none 0 0, .bool false] 61)).alloc (.cells #[.int .i64 0, .int .i64 0, .slice none 0 0, .slice none 0 0, .slice none 0 0, .slice none 0 0, .bool false] 61)) :=
    (((Below.refl _ _).alloc (Nat.le_refl _) _).alloc (by simp) _).alloc (by simp; omega) _
  have i0 : Row (((w.alloc (.cells #[.int .i64 p.want.number, .int .i64 p.want.kind, .slice a2 p.want.stuffs.length c2, .slice a3 p.want.uses.length c3, .slice a4 p.want.opens.length c4, .slice a5 p.want.shuts.length c5, .bool p.stopped] 111)).alloc (.cells #[.int .i64 0, .int .i64 0, .slice none 0 0, .slice none 0 0, .slice none 0 0, .slice none 0 0, .bool false] 61)).alloc (.cells #[.int .i64 0, .int .i64 0, .slice none 0 0, .slice none 0 0, .slice none 0 0, .slice none 0 0, .bool false] 61)) w.heap.size 111 [.int .i64 p.want.number, .int .i64 p.want.kind, .slice a2 p.want.stuffs.length c2, .slice a3 p.want.uses.length c3, .slice a4 p.want.opens.length c4, .slice a5 p.want.shuts.length c5, .bool p.stopped] := ((Row.new _ _ _).alloc _).alloc _
  have z0 : Row (((w.alloc (.cells #[.int .i64 p.want.number, .int .i64 p.want.kind, .slice a2 p.want.stuffs.length c2, .slice a3 p.want.uses.length c3, .slice a4 p.want.opens.length c4, .slice a5 p.want.shuts.length c5, .bool p.stopped] 111)).alloc (.cells #[.int .i64 0, .int .i64 0, .slice none 0 0, .slice none 0 0, .slice none 0 0, .slice none 0 0, .bool false] 61)).alloc (.cells #[.int .i64 0, .int .i64 0, .slice none 0 0, .slice none 0 0, .slice none 0 0, .slice none 0 0, .bool false] 61)) (w.heap.size + 1) 61 [.int .i64 0, .int .i64 0, .slice none 0 0, .slice none 0 0, .slice none 0 0, .slice none 0 0, .bool false] := by
    have := (Row.new (w.alloc (.cells #[.int .i64 p.want.number, .int .i64 p.want.kind, .slice a2 p.want.stuffs.length c2, .slice a3 p.want.uses.length c3, .slice a4 p.want.opens.length c4, .slice a5 p.want.shuts.length c5, .bool p.stopped] 111)) 61 [.int .i64 0, .int .i64 0, .slice none 0 0, .slice none 0 0, .slice none 0 0, .slice none 0 0, .bool false]).alloc (.cells #[.int .i64 0, .int .i64 0, .slice none 0 0, .slice none 0 0, .slice none 0 0, .slice none 0 0, .bool false] 61)
    simpa using this
  have o0 : Row (((w.alloc (.cells #[.int .i64 p.want.number, .int .i64 p.want.kind, .slice a2 p.want.stuffs.length c2, .slice a3 p.want.uses.length c3, .slice a4 p.want.opens.length c4, .slice a5 p.want.shuts.length c5, .bool p.stopped] 111)).alloc (.cells #[.int .i64 0, .int .i64 0, .slice none 0 0, .slice none 0 0, .slice none 0 0, .slice none 0 0, .bool false] 61)).alloc (.cells #[.int .i64 0, .int .i64 0, .slice none 0 0, .slice none 0 0, .slice none 0 0, .slice none 0 0, .bool false] 61)) (w.heap.size + 1 + 1) 61 [.int .i64 0, .int .i64 0, .slice none 0 0, .slice none 0 0, .slice none 0 0, .slice none 0 0, .bool false] := by
    have := Row.new ((w.alloc (.cells #[.int .i64 p.want.number, .int .i64 p.want.kind, .slice a2 p.want.stuffs.length c2, .slice a3 p.want.uses.length c3, .slice a4 p.want.opens.length c4, .slice a5 p.want.shuts.length c5, .bool p.stopped] 111)).alloc (.cells #[.int .i64 0, .int .i64 0, .slice none 0 0, .slice none 0 0, .slice none 0 0, .slice none 0 0, .bool false] 61)) 61 [.int .i64 0, .int .i64 0, .slice none 0 0, .slice none 0 0, .slice none 0 0, .slice none 0 0, .bool false]
    simpa using this
  have hsz : (((w.alloc (.cells #[.int .i64 p.want.number, .int .i64 p.want.kind, .slice a2 p.want.stuffs.length c2, .slice a3 p.want.uses.length c3, .slice a4 p.want.opens.length c4, .slice a5 p.want.shuts.length c5, .bool p.stopped] 111)).alloc (.cells #[.int .i64 0, .int .i64 0, .slice none 0 0, .slice none 0 0, .slice none 0 0, .slice none 0 0, .bool false] 61)).alloc (.cells #[.int .i64 0, .int .i64 0, .slice none 0 0, .slice none 0 0, .slice none 0 0, .slice none 0 0, .bool false] 61)).heap.size = w.heap.size + 3 := by simp
  refine (toClaimWant_own p.want a2 a3 a4 a5 c2 c3 c4 c5 _ (hin.later b0) hr).mono ?_
  rintro e w1 ⟨⟨d2, d3, d4, d5, rfl, ⟨hd2, hd3, hd4, hd5, hx5⟩, in1⟩, hb⟩
  rw [hsz] at hd2
  have b1 := b0.trans (hb.mono b0.size)
  have i1 := i0.later hb
  have z1 := z0.later hb
  have o1 := o0.later hb
  clear b0 i0 z0 o0 hb hsz
  have y6 := i1.cell 6 rfl
  have g0 := o1.cell 0 rfl
  have f0 := o1.frozen 0
  have r0 := z1.cell 0 rfl
  have k0 := z1.frozen 0
  have g1 := o1.cell 1 rfl
  have f1 := o1.frozen 1
  have r1 := z1.cell 1 rfl
  have k1 := z1.frozen 1
  have g2 := o1.cell 2 rfl
  have f2 := o1.frozen 2
  have r2 := z1.cell 2 rfl
  have k2 := z1.frozen 2
  have g3 := o1.cell 3 rfl
  have f3 := o1.frozen 3
  have r3 := z1.cell 3 rfl
  have k3 := z1.frozen 3
  have g4 := o1.cell 4 rfl
  have f4 := o1.frozen 4
  have r4 := z1.cell 4 rfl
  have k4 := z1.frozen 4
  have g5 := o1.cell 5 rfl
  have f5 := o1.frozen 5
  have r5 := z1.cell 5 rfl
  have k5 := z1.frozen 5
  have g6 := o1.cell 6 rfl
  have f6 := o1.frozen 6
  have r6 := z1.cell 6 rfl
  have k6 := z1.frozen 6
  have hne1 : w.heap.size ≠ w.heap.size + 1 + 1 := by omega
  have hne2 : w.heap.size + 1 ≠ w.heap.size + 1 + 1 := by omega
  unfold wantW
  go_wp2
  refine bodyPost_ret (v := .agg #[.int .i64 p.want.number, .int .i64 p.want.kind, .slice (some ⟨d2, 0, none⟩) p.want.stuffs.length p.want.stuffs.length, .slice (some ⟨d3, 0, none⟩) p.want.uses.length p.want.uses.length, .slice (some ⟨d4, 0, none⟩) p.want.opens.length p.want.opens.length, .slice (some ⟨d5, 0, none⟩) p.want.shuts.length p.want.shuts.length, .bool p.stopped])
    (by simp [results, Tryz.results91, go_sem, r0, r1, r2, r3, r4, r5, r6]) rfl ⟨⟨d2, d3, d4, d5, rfl, ⟨by omega, by omega, by omega, by omega, by simp only [Go.Deep.nblk_setCell]; exact hx5⟩, ⟨?_, ?_, ?_, ?_⟩⟩, ?_⟩
  · exact OwnL.sets14 in1.stuffs (by omega) (by omega) _ _ _ _ _ _ _ _ _ _ _ _ _ _
  · exact OwnL.sets14 in1.uses (by omega) (by omega) _ _ _ _ _ _ _ _ _ _ _ _ _ _
  · exact OwnL.sets14 in1.opens (by omega) (by omega) _ _ _ _ _ _ _ _ _ _ _ _ _ _
  · exact OwnL.sets14 in1.shuts (by omega) (by omega) _ _ _ _ _ _ _ _ _ _ _ _ _ _
  · exact below_sets14 b1 (by omega) (by omega) _ _ _ _ _ _ _ _ _ _ _ _ _ _

set_option maxHeartbeats 1000000 in
theorem toClaimPartS_own (a : Option Addr) (cap : Nat) (us : List Part) (w : World) (hm : PartsAt w a us) (hroom : us.length ≤ 1048576) (hrooms : ∀ s ∈ us, WantRoom s.want) :
    Calls Tryz.prog 51 #[.slice a us.length cap] w fun e w' => (∃ b A C, e = .returned (.slice (some ⟨b, 0, none⟩) us.length us.length) ∧ w.heap.size ≤ b ∧ OwnParts w' (some ⟨b, 0, none⟩) us A C ∧ ∀ x, InPt (some ⟨b, 0, none⟩) us A x → w.heap.size ≤ x) ∧ Below w.heap.size w w' := by
  have hmk := make_of (P := Tryz.prog) Tryz.underlying26 infoPart us.length (by omega) (by omega)
  simp only [Value.cells] at hmk
  go_enter Tryz.func51, Tryz.ntmps51
  go_wp2
  go_loopw [4] (fun i wr => ∃ (k : Nat) (g : Nat → Value) (D : Nat → Nat → Nat), k ≤ us.length ∧ i = .int .i64 k ∧ wr.rowIs w.heap.size 61 (us.length * 7) g ∧ (∀ j, j < k → ∀ c, c < 7 → g (j * 7 + c) = partCell (gq us j) (fun f => some ⟨D j f, 0, none⟩) (partLen (gq us j)) c) ∧
    (∀ j, j < k → (w.heap.size < D j 2 ∧ D j 2 < D j 3 ∧ D j 3 < D j 4 ∧ D j 4 < D j 5 ∧ D j 5 < wr.heap.size) ∧ OwnW wr (gq us j).want (D j 2) (D j 3) (D j 4) (D j 5)) ∧ (∀ i j, i < j → j < k → D i 5 < D j 2) ∧ Below w.heap.size w wr) (fun i _ => us.length - (intOf i).toNat)
  case atStart =>
    exact ⟨0, _, fun _ _ => 0, Nat.zero_le _, rfl, rowIs_madeN w _ _ _, fun j hj => absurd hj (Nat.not_lt_zero _), fun j hj => absurd hj (Nat.not_lt_zero _), fun i j _ hj => absurd hj (Nat.not_lt_zero _), (Below.refl _ _).alloc (Nat.le_refl _) _⟩
  case round wr =>
    obtain ⟨k, g, D, hk, rfl, hrow, hg, hD, hO, hbel⟩ := hrel
    have HO : Hid (∀ i j, i < j → j < k → D i 5 < D j 2) := hO
    have HD : Hid (∀ j, j < k → (w.heap.size < D j 2 ∧ D j 2 < D j 3 ∧ D j 3 < D j 4 ∧ D j 4 < D j 5 ∧ D j 5 < wr.heap.size) ∧ OwnW wr (gq us j).want (D j 2) (D j 3) (D j 4) (D j 5)) := hD
    clear hO hD
    have HG : Hid (∀ j, j < k → ∀ c, c < 7 → g (j * 7 + c) = partCell (gq us j) (fun f => some ⟨D j f, 0, none⟩) (partLen (gq us j)) c) := hg
    clear hmk hg
    by_cases hlt : k < us.length
    · obtain ⟨b, o, a2, a3, a4, a5, c2, c3, c4, c5, ha, hb, hc0, hc1, hc2, hc3, hc4, hc5, hc6, hst⟩ := (hm.later hbel).at hlt
      subst ha
      go_wp2_with fail
      refine (toClaimPart_own (gq us k) a2 a3 a4 a5 c2 c3 c4 c5 _ hst (hrooms _ (gq_mem hlt))).mono ?_
      rintro e w1 ⟨⟨d2, d3, d4, d5, rfl, ⟨hd2, hd3, hd4, hd5, hx5⟩, st⟩, hb1⟩
      have hrow1 : w1.rowIs w.heap.size 61 (us.length * 7) g := hrow.of_block (hb1.block _ hrow.lt)
      have hq0 := hrow1.cell (i := k * 7) (by omega)
      have hf0 := hrow1.frozen (k * 7)
      have hq1 := hrow1.cell (i := k * 7 + 1) (by omega)
      have hf1 := hrow1.frozen (k * 7 + 1)
      have hq2 := hrow1.cell (i := k * 7 + 2) (by omega)
      have hf2 := hrow1.frozen (k * 7 + 2)
      have hq3 := hrow1.cell (i := k * 7 + 3) (by omega)
      have hf3 := hrow1.frozen (k * 7 + 3)
      have hq4 := hrow1.cell (i := k * 7 + 4) (by omega)
      have hf4 := hrow1.frozen (k * 7 + 4)
      have hq5 := hrow1.cell (i := k * 7 + 5) (by omega)
      have hf5 := hrow1.frozen (k * 7 + 5)
      have hq6 := hrow1.cell (i := k * 7 + 6) (by omega)
      have hf6 := hrow1.frozen (k * 7 + 6)
      have hsz := hbel.size
      have HD2 : Hid (w.heap.size < d2 ∧ d2 < d3 ∧ d3 < d4 ∧ d4 < d5 ∧ d5 < w1.heap.size ∧ wr.heap.size < d2) := ⟨by omega, hd3, hd4, hd5, hx5, hd2⟩
      clear hsz hd2 hd3 hd4 hd5 hx5
      unfold partV
      clear hc0 hc1 hc2 hc3 hc4 hc5 hc6
      go_wp2
      have hbel1 : Below w.heap.size w w1 := hbel.trans (hb1.mono hbel.size)
      obtain ⟨hd2, hd3, hd4, hd5, hx5, hlo⟩ := HD2.out
      go_roundw
      case rel =>
        refine ⟨k + 1, _, fun j f => if j = k then (if f = 2 then d2 else if f = 3 then d3 else if f = 4 then d4 else d5) else D j f, by omega, by go_num, ((((((hrow1.set (k * 7) _).set (k * 7 + 1) _).set (k * 7 + 2) _).set (k * 7 + 3) _).set (k * 7 + 4) _).set (k * 7 + 5) _).set (k * 7 + 6) _, ?_, ?_, ?_,
          ((((((hbel1.setCell (Nat.le_refl _) _).setCell (Nat.le_refl _) _).setCell (Nat.le_refl _) _).setCell (Nat.le_refl _) _).setCell (Nat.le_refl _) _).setCell (Nat.le_refl _) _).setCell (Nat.le_refl _) _⟩
        · intro j hj c hc
          by_cases e : j = k
          · subst e
            match c, hc with
            | 0, _ => simp [partCell, partLen]
            | 1, _ => simp [partCell, partLen]
            | 2, _ => simp [partCell, partLen]
            | 3, _ => simp [partCell, partLen]
            | 4, _ => simp [partCell, partLen]
            | 5, _ => simp [partCell, partLen]
            | 6, _ => simp [partCell, partLen]
          · have := HG.out j (by omega) c hc
            dsimp only
            simp only [if_neg e]
            rw [← this]
            rw [if_neg (by omega), if_neg (by omega), if_neg (by omega), if_neg (by omega), if_neg (by omega), if_neg (by omega), if_neg (by omega)]
        · intro j hj
          by_cases e : j = k
          · subst e
            simp only [if_true, if_false, Nat.reduceEqDiff]
            exact ⟨⟨hd2, hd3, hd4, hd5, by simp only [Go.Deep.nblk_setCell]; exact hx5⟩, OwnW.sets7k st (by omega) (by omega) (by omega) (by omega) _ _ _ _ _ _ _ _ _ _ _ _ _ _⟩
          · simp only [if_neg e]
            obtain ⟨⟨h2, h3, h4, h5, h5x⟩, h6⟩ := HD.out j (by omega)
            exact ⟨⟨h2, h3, h4, h5, by simp only [Go.Deep.nblk_setCell]; exact Nat.lt_of_lt_of_le h5x hb1.size⟩, OwnW.sets7k (h6.later hb1) (by omega) (by omega) (by omega) (by omega) _ _ _ _ _ _ _ _ _ _ _ _ _ _⟩
        · intro i j hij hj
          dsimp only
          by_cases e : j = k
          · subst e
            rw [if_pos rfl, if_neg (by omega), if_pos rfl]
            exact Nat.lt_trans (HD.out i hij).1.2.2.2.2 hlo
          · rw [if_neg e, if_neg (by omega)]
            exact HO.out i j hij (by omega)
      case measure => simp [intOf]; omega
    · have : k = us.length := by omega
      subst this
      go_wp2
      go_ret
      have HD' := HD.out
      have HO' := HO.out
      refine ⟨⟨w.heap.size, fun j c => some ⟨D j (c + 2), 0, none⟩, fun j c => partLen (gq us j) (c + 2), rfl, Nat.le_refl _, ⟨OwnL.of_rowIs hrow (Nat.le_refl _) (fun k hk j hj => ?_), fun k hk c hc => ?_, fun k hk c hc x hx hx' => ?_, fun i c j d hi hc hj hd hij x hx hx' => ?_⟩, fun x hx => ?_⟩, hbel⟩
      · rw [HG.out k hk j hj]
        match j, hj with
        | 0, _ => rfl
        | 1, _ => rfl
        | 2, _ => rfl
        | 3, _ => rfl
        | 4, _ => rfl
        | 5, _ => rfl
        | 6, _ => rfl
      · have h := (HD' k hk).2
        match c, hc with
        | 0, _ => exact h.stuffs
        | 1, _ => exact h.uses
        | 2, _ => exact h.opens
        | 3, _ => exact h.shuts
      · have e1 := inSlot_some hx
        have e2 := inSlot_some hx'
        have := (HD' k hk).1
        match c, hc with
        | 0, _ => simp only [Nat.zero_add, Nat.reduceAdd] at e1; omega
        | 1, _ => simp only [Nat.zero_add, Nat.reduceAdd] at e1; omega
        | 2, _ => simp only [Nat.zero_add, Nat.reduceAdd] at e1; omega
        | 3, _ => simp only [Nat.zero_add, Nat.reduceAdd] at e1; omega
      · have e1 := inSlot_some hx
        have e2 := inSlot_some hx'
        have t1 := (HD' i hi).1
        have t2 := (HD' j hj).1
        have l1 := four_le (D i) (c + 2) (by omega) (by omega) t1.2.1 t1.2.2.1 t1.2.2.2.1
        have l2 := four_le (D j) (d + 2) (by omega) (by omega) t2.2.1 t2.2.2.1 t2.2.2.2.1
        rcases Nat.lt_trichotomy i j with h | h | h
        · have := HO' i j h hj; omega
        · subst h
          have hcd : c ≠ d := by omega
          exact four_ne (D i) hc hd hcd t1.2.1 t1.2.2.1 t1.2.2.2.1 (by omega)
        · have := HO' j i h hi; omega
      · rcases hx with hx | ⟨k, hk, c, hc, hx⟩
        · have := inSlot_some hx; omega
        · have e1 := inSlot_some hx
          have t1 := (HD' k hk).1
          have l1 := four_le (D k) (c + 2) (by omega) (by omega) t1.2.1 t1.2.2.1 t1.2.2.2.1
          omega

end Go.Proofs.YtfmhkicncgccjaaGreat

/- Copies that own their memory: books. -/
namespace Go.Proofs.YtfmhkicncgccjaaGreat
open Go.RowKit Go.Sort
set_option linter.unusedSimpArgs false
set_option linter.unusedVariables false

set_option maxHeartbeats 2000000 in
theorem toClaimBook_own (x : Book) (af ap av aq : Option Addr) (cf cp cv cq : Nat) (w : World) (hin : BookIn w x af ap av aq) (hr : BookRoom x) :
    Calls Tryz.prog 20 #[bookV x af ap av aq cf cp cv cq] w fun e w' => (∃ b0 b1 b2 b3 A1 C1 A2 C2, e = .returned (bookV x (some ⟨b0, 0, none⟩) (some ⟨b1, 0, none⟩) (some ⟨b2, 0, none⟩) (some ⟨b3, 0, none⟩) x.foes.length x.spots.length x.valves.length x.parts.length) ∧
      OwnBook w' x (some ⟨b0, 0, none⟩) (some ⟨b1, 0, none⟩) (some ⟨b2, 0, none⟩) (some ⟨b3, 0, none⟩) A1 C1 A2 C2 ∧ ∀ y, InBk x (some ⟨b0, 0, none⟩) (some ⟨b1, 0, none⟩) (some ⟨b2, 0, none⟩) (some ⟨b3, 0, none⟩) A1 A2 y → w.heap.size ≤ y) ∧ Below w.heap.size w w' := by
  unfold bookV
  go_enter Tryz.func20, Tryz.ntmps20
  go_wp2_with fail
  have b0 : Below w.heap.size w (((w.alloc (.cells #[.slice af x.foes.length cf, .slice ap x.spots.length cp, .slice av x.valves.length cv, .slice aq x.parts.length cq, .int .i64 x.seen] 49)).alloc (.cells #[.slice none 0 0, .slice none 0 0, .slice none 0 0, .slice none 0 0, .int .i64 0] 28)).alloc (.cells #[.slice none 0 0, .slice none 0 0, .slice none 0 0, .slice none 0 0, .int .i64 0] 28)) :=
    (((Below.refl _ _).alloc (Nat.le_refl _) _).alloc (by simp) _).alloc (by simp; omega) _
  have i0 : Row (((w.alloc (.cells #[.slice af x.foes.length cf, .slice ap x.spots.length cp, .slice av x.valves.length cv, .slice aq x.parts.length cq, .int .i64 x.seen] 49)).alloc (.cells #[.slice none 0 0, .slice none 0 0, .slice none 0 0, .slice none 0 0, .int .i64 0] 28)).alloc (.cells #[.slice none 0 0, .slice none 0 0, .slice none 0 0, .slice none 0 0, .int .i64 0] 28)) w.heap.size 49 [.slice af x.foes.length cf, .slice ap x.spots.length cp, .slice av x.valves.length cv, .slice aq x.parts.length cq, .int .i64 x.seen] := ((Row.new _ _ _).alloc _).alloc _
  have z0 : Row (((w.alloc (.cells #[.slice af x.foes.length cf, .slice ap x.spots.length cp, .slice av x.valves.length cv, .slice aq x.parts.length cq, .int .i64 x.seen] 49)).alloc (.cells #[.slice none 0 0, .slice none 0 0, .slice none 0 0, .slice none 0 0, .int .i64 0] 28)).alloc (.cells #[.slice none 0 0, .slice none 0 0, .slice none 0 0, .slice none 0 0, .int .i64 0] 28)) (w.heap.size + 1) 28 [.slice none 0 0, .slice none 0 0, .slice none 0 0, .slice none 0 0, .int .i64 0] := by
    have := (Row.new (w.alloc (.cells #[.slice af x.foes.length cf, .slice ap x.spots.length cp, .slice av x.valves.length cv, .slice aq x.parts.length cq, .int .i64 x.seen] 49)) 28 [.slice none 0 0, .slice none 0 0, .slice none 0 0, .slice none 0 0, .int .i64 0]).alloc (.cells #[.slice none 0 0, .slice none 0 0, .slice none 0 0, .slice none 0 0, .int .i64 0] 28)
    simpa using this
  have o0 : Row (((w.alloc (.cells #[.slice af x.foes.length cf, .slice ap x.spots.length cp, .slice av x.valves.length cv, .slice aq x.parts.length cq, .int .i64 x.seen] 49)).alloc (.cells #[.slice none 0 0, .slice none 0 0, .slice none 0 0, .slice none 0 0, .int .i64 0] 28)).alloc (.cells #[.slice none 0 0, .slice none 0 0, .slice none 0 0, .slice none 0 0, .int .i64 0] 28)) (w.heap.size + 1 + 1) 28 [.slice none 0 0, .slice none 0 0, .slice none 0 0, .slice none 0 0, .int .i64 0] := by
    have := Row.new ((w.alloc (.cells #[.slice af x.foes.length cf, .slice ap x.spots.length cp, .slice av x.valves.length cv, .slice aq x.parts.length cq, .int .i64 x.seen] 49)).alloc (.cells #[.slice none 0 0, .slice none 0 0, .slice none 0 0, .slice none 0 0, .int .i64 0] 28)) 28 [.slice none 0 0, .slice none 0 0, .slice none 0 0, .slice none 0 0, .int .i64 0]
    simpa using this
  have hs0 : w.heap.size + 3 ≤ (((w.alloc (.cells #[.slice af x.foes.length cf, .slice ap x.spots.length cp, .slice av x.valves.length cv, .slice aq x.parts.length cq, .int .i64 x.seen] 49)).alloc (.cells #[.slice none 0 0, .slice none 0 0, .slice none 0 0, .slice none 0 0, .int .i64 0] 28)).alloc (.cells #[.slice none 0 0, .slice none 0 0, .slice none 0 0, .slice none 0 0, .int .i64 0] 28)).heap.size := by simp
  have hne : w.heap.size ≠ w.heap.size + 1 + 1 := by omega
  refine (toClaimFoeS_own af cf x.foes _ (hin.later b0).foes hr.foes).mono ?_
  rintro e w1 ⟨⟨d0, rfl, hd0, hx0, t0⟩, hb⟩
  have hs1 := Nat.le_trans hs0 hb.size
  have hd0' : w.heap.size + 1 + 1 < d0 := by omega
  have b1 := b0.trans (hb.mono b0.size)
  have i1 := i0.later hb
  have z1 := z0.later hb
  have o1 := o0.later hb
  clear b0 i0 z0 o0 hb hs0 hd0
  have q1 := i1.cell 1 rfl
  have f0 := o1.frozen 0
  have g0 := o1.cell 0 rfl
  go_wp2_with fail
  have b1' := b1.setCell (p := ⟨w.heap.size + 1 + 1, 0, none⟩) (by simp; omega) (.slice (some ⟨d0, 0, none⟩) x.foes.length x.foes.length)
  have i1' := i1.other (a := ⟨w.heap.size + 1 + 1, 0, none⟩) hne (.slice (some ⟨d0, 0, none⟩) x.foes.length x.foes.length)
  have z1' := z1.other (a := ⟨w.heap.size + 1 + 1, 0, none⟩) (by simp) (.slice (some ⟨d0, 0, none⟩) x.foes.length x.foes.length)
  have o1' := o1.set 0 (.slice (some ⟨d0, 0, none⟩) x.foes.length x.foes.length)
  have t0' := OwnL.setOther t0 (p := ⟨w.heap.size + 1 + 1, 0, none⟩) (fun b o h => by cases h; exact Nat.ne_of_gt hd0') (.slice (some ⟨d0, 0, none⟩) x.foes.length x.foes.length)
  have hs1' : w.heap.size + 3 ≤ (w1.setCell ⟨w.heap.size + 1 + 1, 0, none⟩ (.slice (some ⟨d0, 0, none⟩) x.foes.length x.foes.length)).heap.size := by rw [Go.Deep.nblk_setCell]; exact hs1
  refine (toClaimSpotS_own ap cp x.spots _ (hin.later b1').spots hr.spots hr.mays).mono ?_
  clear q1 f0 g0
  rintro e w2 ⟨⟨d1, A1, C1, rfl, hd1, t1, lo1⟩, hb⟩
  have n1 := Go.Deep.nblk_setCell w1 ⟨w.heap.size + 1 + 1, 0, none⟩ (.slice (some ⟨d0, 0, none⟩) x.foes.length x.foes.length)
  have LO1 : Hid (∀ y, InSp (some ⟨d1, 0, none⟩) x.spots A1 y → w1.heap.size ≤ y ∧ y < w2.heap.size ∧ w.heap.size + 3 ≤ y) := fun y hy => ⟨by have := lo1 y hy; omega, t1.lt hy, by have := lo1 y hy; omega⟩
  clear lo1
  have z12 : w1.heap.size ≤ w2.heap.size := by have := hb.size; omega
  have hd1' : w.heap.size + 1 + 1 < d1 := by omega
  have hs2 := Nat.le_trans hs1' hb.size
  have b2 := b1'.trans (hb.mono b1'.size)
  have i2 := i1'.later hb
  have z2 := z1'.later hb
  have o2 := o1'.later hb
  have t0 := OwnL.later t0' hb
  clear b1 i1 z1 o1 b1' i1' z1' o1' hb hs1 hs1' hd1 t0'
  have q2 := i2.cell 2 rfl
  have f1 := o2.frozen 1
  have g1 := o2.cell 1 rfl
  go_wp2_with fail
  have b2' := b2.setCell (p := ⟨w.heap.size + 1 + 1, 1, none⟩) (by simp; omega) (.slice (some ⟨d1, 0, none⟩) x.spots.length x.spots.length)
  have i2' := i2.other (a := ⟨w.heap.size + 1 + 1, 1, none⟩) hne (.slice (some ⟨d1, 0, none⟩) x.spots.length x.spots.length)
  have z2' := z2.other (a := ⟨w.heap.size + 1 + 1, 1, none⟩) (by simp) (.slice (some ⟨d1, 0, none⟩) x.spots.length x.spots.length)
  have o2' := o2.set 1 (.slice (some ⟨d1, 0, none⟩) x.spots.length x.spots.length)
  have t0' := OwnL.setOther t0 (p := ⟨w.heap.size + 1 + 1, 1, none⟩) (fun b o h => by cases h; exact Nat.ne_of_gt hd0') (.slice (some ⟨d1, 0, none⟩) x.spots.length x.spots.length)
  have t1' := t1.only (Only.cell _ ⟨w.heap.size + 1 + 1, 1, none⟩ (.slice (some ⟨d1, 0, none⟩) x.spots.length x.spots.length)) (fun y hy e => by have := (LO1.out y hy).2.2; simp only at e; omega)
  have hs2' : w.heap.size + 3 ≤ (w2.setCell ⟨w.heap.size + 1 + 1, 1, none⟩ (.slice (some ⟨d1, 0, none⟩) x.spots.length x.spots.length)).heap.size := by rw [Go.Deep.nblk_setCell]; exact hs2
  refine (toStringS_own av cv x.valves _ (hin.later b2').valves hr.valves).mono ?_
  clear q2 f1 g1
  rintro e w3 ⟨⟨d2, rfl, hd2, hx2, t2⟩, hb⟩
  have n2 := Go.Deep.nblk_setCell w2 ⟨w.heap.size + 1 + 1, 1, none⟩ (.slice (some ⟨d1, 0, none⟩) x.spots.length x.spots.length)
  have hd2w : w2.heap.size ≤ d2 := by omega
  have z23 : w2.heap.size ≤ w3.heap.size := by have := hb.size; omega
  have hd2' : w.heap.size + 1 + 1 < d2 := by omega
  have hs3 := Nat.le_trans hs2' hb.size
  have b3 := b2'.trans (hb.mono b2'.size)
  have i3 := i2'.later hb
  have z3 := z2'.later hb
  have o3 := o2'.later hb
  have t0 := OwnL.later t0' hb
  have t1 := t1'.later hb
  clear b2 i2 z2 o2 b2' i2' z2' o2' hb hs2 hs2' hd2 t0' t1'
  have q3 := i3.cell 3 rfl
  have f2 := o3.frozen 2
  have g2 := o3.cell 2 rfl
  go_wp2_with fail
  have b3' := b3.setCell (p := ⟨w.heap.size + 1 + 1, 2, none⟩) (by simp; omega) (.slice (some ⟨d2, 0, none⟩) x.valves.length x.valves.length)
  have i3' := i3.other (a := ⟨w.heap.size + 1 + 1, 2, none⟩) hne (.slice (some ⟨d2, 0, none⟩) x.valves.length x.valves.length)
  have z3' := z3.other (a := ⟨w.heap.size + 1 + 1, 2, none⟩) (by simp) (.slice (some ⟨d2, 0, none⟩) x.valves.length x.valves.length)
  have o3' := o3.set 2 (.slice (some ⟨d2, 0, none⟩) x.valves.length x.valves.length)
  have t0' := OwnL.setOther t0 (p := ⟨w.heap.size + 1 + 1, 2, none⟩) (fun b o h => by cases h; exact Nat.ne_of_gt hd0') (.slice (some ⟨d2, 0, none⟩) x.valves.length x.valves.length)
  have t1' := t1.only (Only.cell _ ⟨w.heap.size + 1 + 1, 2, none⟩ (.slice (some ⟨d2, 0, none⟩) x.valves.length x.valves.length)) (fun y hy e => by have := (LO1.out y hy).2.2; simp only at e; omega)
  have t2' := OwnL.setOther t2 (p := ⟨w.heap.size + 1 + 1, 2, none⟩) (fun b o h => by cases h; exact Nat.ne_of_gt hd2') (.slice (some ⟨d2, 0, none⟩) x.valves.length x.valves.length)
  have hs3' : w.heap.size + 3 ≤ (w3.setCell ⟨w.heap.size + 1 + 1, 2, none⟩ (.slice (some ⟨d2, 0, none⟩) x.valves.length x.valves.length)).heap.size := by rw [Go.Deep.nblk_setCell]; exact hs3
  refine (toClaimPartS_own aq cq x.parts _ (hin.later b3').parts hr.parts hr.wants).mono ?_
  clear q3 f2 g2
  rintro e w4 ⟨⟨d3, A2, C2, rfl, hd3, t3, lo3⟩, hb⟩
  have n3 := Go.Deep.nblk_setCell w3 ⟨w.heap.size + 1 + 1, 2, none⟩ (.slice (some ⟨d2, 0, none⟩) x.valves.length x.valves.length)
  have LO3 : Hid (∀ y, InPt (some ⟨d3, 0, none⟩) x.parts A2 y → w3.heap.size ≤ y ∧ w.heap.size + 3 ≤ y) := fun y hy => ⟨by have := lo3 y hy; omega, by have := lo3 y hy; omega⟩
  clear lo3
  have hd3' : w.heap.size + 1 + 1 < d3 := by omega
  have hs4 := Nat.le_trans hs3' hb.size
  have b4 := b3'.trans (hb.mono b3'.size)
  have i4 := i3'.later hb
  have z4 := z3'.later hb
  have o4 := o3'.later hb
  have t0 := OwnL.later t0' hb
  have t1 := t1'.later hb
  have t2 := OwnL.later t2' hb
  clear b3 i3 z3 o3 b3' i3' z3' o3' hb hs3 hs3' hd3 t0' t1' t2'
  have q4 := i4.cell 4 rfl
  have f3 := o4.frozen 3
  have f4 := o4.frozen 4
  have g0 := o4.cell 0 rfl
  have r0 := z4.cell 0 rfl
  have k0 := z4.frozen 0
  have g1 := o4.cell 1 rfl
  have r1 := z4.cell 1 rfl
  have k1 := z4.frozen 1
  have g2 := o4.cell 2 rfl
  have r2 := z4.cell 2 rfl
  have k2 := z4.frozen 2
  have g3 := o4.cell 3 rfl
  have r3 := z4.cell 3 rfl
  have k3 := z4.frozen 3
  have g4 := o4.cell 4 rfl
  have r4 := z4.cell 4 rfl
  have k4 := z4.frozen 4
  have hne2 : w.heap.size + 1 ≠ w.heap.size + 1 + 1 := by omega
  have base : OwnBook w4 x (some ⟨d0, 0, none⟩) (some ⟨d1, 0, none⟩) (some ⟨d2, 0, none⟩) (some ⟨d3, 0, none⟩) A1 C1 A2 C2 := by
    refine ⟨t0, t1, t2, t3, fun y hy hy' => ?_, fun y hy hy' => ?_, fun y hy hy' => ?_, fun y hy hy' => ?_, fun y hy hy' => ?_, fun y hy hy' => ?_⟩
    · have := inSlot_some hy; have := LO1.out y hy'; omega
    · have := inSlot_some hy; have := inSlot_some hy'; omega
    · have := inSlot_some hy; have := LO3.out y hy'; omega
    · have := inSlot_some hy'; have := LO1.out y hy; omega
    · have := LO1.out y hy; have := LO3.out y hy'; omega
    · have := inSlot_some hy; have := LO3.out y hy'; omega
  have hlo : ∀ y, InBk x (some ⟨d0, 0, none⟩) (some ⟨d1, 0, none⟩) (some ⟨d2, 0, none⟩) (some ⟨d3, 0, none⟩) A1 A2 y → w.heap.size + 3 ≤ y := fun y hy => by
    rcases hy with hy | hy | hy | hy
    · have := inSlot_some hy; omega
    · exact (LO1.out y hy).2.2
    · have := inSlot_some hy; omega
    · exact (LO3.out y hy).2
  have HB : Hid (OwnBook w4 x (some ⟨d0, 0, none⟩) (some ⟨d1, 0, none⟩) (some ⟨d2, 0, none⟩) (some ⟨d3, 0, none⟩) A1 C1 A2 C2 ∧ ∀ y, InBk x (some ⟨d0, 0, none⟩) (some ⟨d1, 0, none⟩) (some ⟨d2, 0, none⟩) (some ⟨d3, 0, none⟩) A1 A2 y → w.heap.size + 3 ≤ y) := ⟨base, hlo⟩
  clear base hlo LO1 LO3 hx0 hx2 n1 n2 n3 hd2w z12 z23
  clear t0 t1 t2 t3
  go_wp2
  refine bodyPost_ret (v := .agg #[.slice (some ⟨d0, 0, none⟩) x.foes.length x.foes.length, .slice (some ⟨d1, 0, none⟩) x.spots.length x.spots.length, .slice (some ⟨d2, 0, none⟩) x.valves.length x.valves.length, .slice (some ⟨d3, 0, none⟩) x.parts.length x.parts.length, .int .i64 x.seen])
    (by simp [results, Tryz.results20, go_sem, r0, r1, r2, r3, r4]) rfl ⟨⟨d0, d1, d2, d3, A1, C1, A2, C2, rfl, ?_, fun y hy => by have := HB.out.2 y hy; omega⟩, ?_⟩
  · obtain ⟨base, hlo⟩ := HB.out
    have g1 : ∀ y, InBk x (some ⟨d0, 0, none⟩) (some ⟨d1, 0, none⟩) (some ⟨d2, 0, none⟩) (some ⟨d3, 0, none⟩) A1 A2 y → ¬ y = w.heap.size + 1 := fun y hy => by have := hlo y hy; omega
    have g2 : ∀ y, InBk x (some ⟨d0, 0, none⟩) (some ⟨d1, 0, none⟩) (some ⟨d2, 0, none⟩) (some ⟨d3, 0, none⟩) A1 A2 y → ¬ y = w.heap.size + 1 + 1 := fun y hy => by have := hlo y hy; omega
    exact ((((((base.only (Only.cell _ ⟨w.heap.size + 1 + 1, 3, none⟩ _) g2).only (Only.cell _ ⟨w.heap.size + 1 + 1, 4, none⟩ _) g2).only (Only.cell _ ⟨w.heap.size + 1, 0, none⟩ _) g1).only (Only.cell _ ⟨w.heap.size + 1, 1, none⟩ _) g1).only (Only.cell _ ⟨w.heap.size + 1, 2, none⟩ _) g1).only (Only.cell _ ⟨w.heap.size + 1, 3, none⟩ _) g1).only (Only.cell _ ⟨w.heap.size + 1, 4, none⟩ _) g1
  · exact ((((((b4.setCell (by simp; omega) _).setCell (by simp; omega) _).setCell (by simp) _).setCell (by simp) _).setCell (by simp) _).setCell (by simp) _).setCell (by simp) _

end Go.Proofs.YtfmhkicncgccjaaGreat

/- Marks written into a book, and held there. -/
namespace Go.Proofs.YtfmhkicncgccjaaGreat
open Go.RowKit Go.Sort
set_option linter.unusedSimpArgs false
set_option linter.unusedVariables false


set_option maxHeartbeats 1000000 in
theorem markFoes0 (a : Option Addr) (cap : Nat) (k : Int) (w : World) :
    Calls Tryz.prog 62 #[.slice a 0 cap, .int .i64 k] w fun e w' => e = .returned (.int .i64 k) ∧ w' = w := by
  go_enter Tryz.func62, Tryz.ntmps62
  go_wp2
  go_loopw [1, 5] (fun kk i wv => wv = w ∧ i = .int .i64 0 ∧ kk = .int .i64 k) (fun _ _ _ => 0)
  case atStart => exact ⟨rfl, rfl, rfl⟩
  case round =>
    obtain ⟨rfl, rfl, rfl⟩ := hrel
    go_wp2
    go_ret
    exact ⟨rfl, rfl⟩
set_option maxHeartbeats 1000000 in
theorem markSpots0 (a : Option Addr) (cap : Nat) (k : Int) (w : World) :
    Calls Tryz.prog 63 #[.slice a 0 cap, .int .i64 k] w fun e w' => e = .returned (.int .i64 k) ∧ w' = w := by
  go_enter Tryz.func63, Tryz.ntmps63
  go_wp2
  go_loopw [1, 5] (fun kk i wv => wv = w ∧ i = .int .i64 0 ∧ kk = .int .i64 k) (fun _ _ _ => 0)
  case atStart => exact ⟨rfl, rfl, rfl⟩
  case round =>
    obtain ⟨rfl, rfl, rfl⟩ := hrel
    go_wp2
    go_ret
    exact ⟨rfl, rfl⟩
set_option maxHeartbeats 1000000 in
theorem markParts0 (a : Option Addr) (cap : Nat) (k : Int) (w : World) :
    Calls Tryz.prog 65 #[.slice a 0 cap, .int .i64 k] w fun e w' => e = .returned (.int .i64 k) ∧ w' = w := by
  go_enter Tryz.func65, Tryz.ntmps65
  go_wp2
  go_loopw [1, 5] (fun kk i wv => wv = w ∧ i = .int .i64 0 ∧ kk = .int .i64 k) (fun _ _ _ => 0)
  case atStart => exact ⟨rfl, rfl, rfl⟩
  case round =>
    obtain ⟨rfl, rfl, rfl⟩ := hrel
    go_wp2
    go_ret
    exact ⟨rfl, rfl⟩
theorem markFoeS_any (a : Option Addr) (n cap : Nat) (k : Int) (w : World) (h : Slot w 70 2 a n) (h0 : 0 ≤ k) (h1 : k + n * 2 ≤ 1000000000) :
    Calls Tryz.prog 62 #[.slice a n cap, .int .i64 k] w fun e w' => e = .returned (.int .i64 (k + (n * 2 : Nat))) ∧ SlotG w' 70 2 a n (gFoe k) ∧ Only (InSlot a n) w w' := by
  by_cases hn : n = 0
  · subst hn
    refine (markFoes0 a cap k w).mono ?_
    rintro e w' ⟨rfl, rfl⟩
    exact ⟨by simp, Or.inl rfl, Only.refl _ _⟩
  · rcases h with h | ⟨b, l, rfl, hr, hl⟩
    · exact absurd h hn
    · refine (markFoes_any b n cap l k w hr hl h0 h1).mono ?_
      rintro e w' ⟨rfl, h2, h3⟩
      exact ⟨rfl, Or.inr ⟨b, l, rfl, h2, hl⟩, only_slot h3 hn⟩
/-- Marked spots, marked parts. -/
def SpotsG (w : World) (a : Option Addr) (n : Nat) (A : Nat → Option Addr) (L C : Nat → Nat) (k : Int) : Prop :=
  n = 0 ∨ ∃ b l, a = some ⟨b, 0, none⟩ ∧ Row w b 72 (rowG (gSpot A L C k) (n * 5) l) ∧ ∀ i, i < n → SlotG w 9 1 (A i) (L i) (gFoe (kSp L k i + 4))
def PartsG (w : World) (a : Option Addr) (n : Nat) (A : Nat → Nat → Option Addr) (L C : Nat → Nat → Nat) (k : Int) : Prop :=
  n = 0 ∨ ∃ b l, a = some ⟨b, 0, none⟩ ∧ Row w b 61 (rowG (gPart A L C k) (n * 7) l) ∧ ∀ i, i < n → ∀ d, d < 4 → SlotG w (tS d) (sS d) (A i d) (L i d) (gS d (pS (L i) (kPt L k i) d))
theorem SpotsG.only {B : Nat → Prop} {w w' : World} {a : Option Addr} {n : Nat} {A : Nat → Option Addr} {L C : Nat → Nat} {k : Int} (h : SpotsG w a n A L C k) (ho : Only B w w') (hB : ∀ x, (InSlot a n x ∨ ∃ i, i < n ∧ InSlot (A i) (L i) x) → ¬ B x) : SpotsG w' a n A L C k := by
  rcases h with h | ⟨b, l, rfl, hr, hs⟩
  · exact Or.inl h
  · by_cases hn : n = 0
    · exact Or.inl hn
    · exact Or.inr ⟨b, l, rfl, hr.only ho (hB b (Or.inl ⟨hn, 0, rfl⟩)), fun i hi => (hs i hi).only ho (fun x hx => hB x (Or.inr ⟨i, hi, hx⟩))⟩
theorem PartsG.only {B : Nat → Prop} {w w' : World} {a : Option Addr} {n : Nat} {A : Nat → Nat → Option Addr} {L C : Nat → Nat → Nat} {k : Int} (h : PartsG w a n A L C k) (ho : Only B w w') (hB : ∀ x, (InSlot a n x ∨ ∃ i, i < n ∧ ∃ c, c < 4 ∧ InSlot (A i c) (L i c) x) → ¬ B x) : PartsG w' a n A L C k := by
  rcases h with h | ⟨b, l, rfl, hr, hs⟩
  · exact Or.inl h
  · by_cases hn : n = 0
    · exact Or.inl hn
    · exact Or.inr ⟨b, l, rfl, hr.only ho (hB b (Or.inl ⟨hn, 0, rfl⟩)), fun i hi d hd => (hs i hi d hd).only ho (fun x hx => hB x (Or.inr ⟨i, hi, d, hd, hx⟩))⟩

theorem markSpotS_own (a : Option Addr) (ps : List Spot) (cap : Nat) (A : Nat → Option Addr) (C : Nat → Nat) (k : Int) (w : World) (h : OwnSpots w a ps A C) (h0 : 0 ≤ k) (h1 : kSp (fun i => (gp ps i).may.length) k ps.length ≤ 1000000000) :
    Calls Tryz.prog 63 #[.slice a ps.length cap, .int .i64 k] w fun e w' => e = .returned (.int .i64 (kSp (fun i => (gp ps i).may.length) k ps.length)) ∧ SpotsG w' a ps.length A (fun i => (gp ps i).may.length) C k ∧ Only (InSp a ps A) w w' := by
  by_cases hn : ps.length = 0
  · rw [hn]
    refine (markSpots0 a cap k w).mono ?_
    rintro e w' ⟨rfl, rfl⟩
    exact ⟨rfl, Or.inl rfl, Only.refl _ _⟩
  · obtain ⟨b, l, rfl, ho⟩ := h.own hn
    refine (markSpots_any b ps.length cap l A _ C k w ho h0 h1).mono ?_
    rintro e w' ⟨rfl, h2, h3, h4⟩
    refine ⟨rfl, Or.inr ⟨b, l, rfl, h2, h3⟩, h4.mono fun x hx => ?_⟩
    rcases hx with rfl | ⟨i, hi, hx⟩
    · exact Or.inl ⟨hn, 0, rfl⟩
    · exact Or.inr ⟨i, hi, hx⟩
theorem markPartS_own (a : Option Addr) (ps : List Part) (cap : Nat) (A : Nat → Nat → Option Addr) (C : Nat → Nat → Nat) (k : Int) (w : World) (h : OwnParts w a ps A C) (h0 : 0 ≤ k) (h1 : kPt (fun i => pL (gq ps i)) k ps.length ≤ 1000000000) :
    Calls Tryz.prog 65 #[.slice a ps.length cap, .int .i64 k] w fun e w' => e = .returned (.int .i64 (kPt (fun i => pL (gq ps i)) k ps.length)) ∧ PartsG w' a ps.length A (fun i => pL (gq ps i)) C k ∧ Only (InPt a ps A) w w' := by
  by_cases hn : ps.length = 0
  · rw [hn]
    refine (markParts0 a cap k w).mono ?_
    rintro e w' ⟨rfl, rfl⟩
    exact ⟨rfl, Or.inl rfl, Only.refl _ _⟩
  · obtain ⟨b, l, rfl, ho⟩ := h.own hn
    refine (markParts_any b ps.length cap l A _ C k w ho h0 h1).mono ?_
    rintro e w' ⟨rfl, hm⟩
    refine ⟨rfl, Or.inr ⟨b, l, rfl, hm.row, fun i hi d hd => hm.done i hi d hd (Or.inl hi)⟩, hm.only.mono fun x hx => ?_⟩
    rcases hx with rfl | ⟨i, hi, c, hc, hx⟩
    · exact Or.inl ⟨hn, 0, rfl⟩
    · exact Or.inr ⟨i, hi, c, hc, hx⟩
/-- The number with which the marks of a book's spots, valves, parts begin, and where they end. -/
def kB1 (x : Book) (k : Int) : Int := k + (x.foes.length * 2 : Nat)
def kB2 (x : Book) (k : Int) : Int := kSp (fun i => (gp x.spots i).may.length) (kB1 x k) x.spots.length
def kB3 (x : Book) (k : Int) : Int := kB2 x k + x.valves.length
def kB4 (x : Book) (k : Int) : Int := kPt (fun i => pL (gq x.parts i)) (kB3 x k) x.parts.length
theorem kSp_sum (L : Nat → Nat) (k : Int) (n : Nat) : kSp L k n = k + ((4 * n + sumTo n L : Nat) : Int) := by
  induction n with
  | zero => simp [kSp, sumTo]
  | succ n ih => rw [kSp_step, ih, sumTo_succ]; push_cast; omega
theorem kPt_sum (ps : List Part) (k : Int) (n : Nat) : kPt (fun i => pL (gq ps i)) k n ≤ k + ((3 * n + 3 * sumTo n (fun i => wW (gq ps i).want) : Nat) : Int) := by
  induction n with
  | zero => simp [kPt, sumTo]
  | succ n ih =>
    rw [kPt_step, sumTo_succ]
    have e : wW (gq ps n).want = pL (gq ps n) 0 + pL (gq ps n) 1 + pL (gq ps n) 2 + pL (gq ps n) 3 := rfl
    rw [e]
    push_cast at ih ⊢
    omega
theorem kB4_le (x : Book) (k : Int) : kB4 x k ≤ k + ((7 * wB x : Nat) : Int) := by
  have h1 := kPt_sum x.parts (kB3 x k) x.parts.length
  have h2 := kSp_sum (fun i => (gp x.spots i).may.length) (kB1 x k) x.spots.length
  unfold kB4
  unfold kB3 kB2 at *
  rw [h2] at h1 ⊢
  unfold kB1 at *
  unfold wB
  push_cast at h1 ⊢
  omega

/-- A marked book. -/
structure BookG (w : World) (x : Book) (af ap av aq : Option Addr) (A1 : Nat → Option Addr) (C1 : Nat → Nat) (A2 : Nat → Nat → Option Addr) (C2 : Nat → Nat → Nat) (k : Int) : Prop where
  foes : SlotG w 70 2 af x.foes.length (gFoe k)
  spots : SpotsG w ap x.spots.length A1 (fun i => (gp x.spots i).may.length) C1 (kB1 x k)
  valves : SlotG w 9 1 av x.valves.length (gFoe (kB2 x k))
  parts : PartsG w aq x.parts.length A2 (fun i => pL (gq x.parts i)) C2 (kB3 x k)
theorem BookG.only {B : Nat → Prop} {w w' : World} {x : Book} {af ap av aq : Option Addr} {A1 : Nat → Option Addr} {C1 : Nat → Nat} {A2 : Nat → Nat → Option Addr} {C2 : Nat → Nat → Nat} {k : Int} (h : BookG w x af ap av aq A1 C1 A2 C2 k) (ho : Only B w w') (hB : ∀ y, InBk x af ap av aq A1 A2 y → ¬ B y) : BookG w' x af ap av aq A1 C1 A2 C2 k :=
  ⟨h.foes.only ho (fun y hy => hB y (Or.inl hy)), h.spots.only ho (fun y hy => hB y (Or.inr (Or.inl hy))), h.valves.only ho (fun y hy => hB y (Or.inr (Or.inr (Or.inl hy)))), h.parts.only ho (fun y hy => hB y (Or.inr (Or.inr (Or.inr hy))))⟩
theorem BookG.later {w w' : World} {x : Book} {af ap av aq : Option Addr} {A1 : Nat → Option Addr} {C1 : Nat → Nat} {A2 : Nat → Nat → Option Addr} {C2 : Nat → Nat → Nat} {k : Int} (h : BookG w x af ap av aq A1 C1 A2 C2 k) (hb : Below w.heap.size w w') : BookG w' x af ap av aq A1 C1 A2 C2 k := h.only (Only.of (B := fun _ => False) hb) (fun _ _ => id)

set_option maxRecDepth 100000 in
set_option maxHeartbeats 2000000 in
theorem markBook_any (x : Book) (af ap av aq : Option Addr) (cf cp cv cq : Nat) (A1 : Nat → Option Addr) (C1 : Nat → Nat) (A2 : Nat → Nat → Option Addr) (C2 : Nat → Nat → Nat) (k : Int) (w : World) (h : OwnBook w x af ap av aq A1 C1 A2 C2) (h0 : 0 ≤ k) (h1 : kB4 x k ≤ 1000000000) :
    Calls Tryz.prog 23 #[bookV x af ap av aq cf cp cv cq, .int .i64 k] w fun e w' => e = .returned (.int .i64 (kB4 x k)) ∧ BookG w' x af ap av aq A1 C1 A2 C2 k ∧ Only (InBk x af ap av aq A1 A2) w w' := by
  have t3 := kPt_ge (fun i => pL (gq x.parts i)) (kB3 x k) x.parts.length
  have t2 := kSp_ge (fun i => (gp x.spots i).may.length) (kB1 x k) x.spots.length
  have e3 : kB3 x k = kB2 x k + x.valves.length := rfl
  have e1 : kB1 x k = k + (x.foes.length * 2 : Nat) := rfl
  have hk4 : kB3 x k ≤ kB4 x k := by unfold kB4; omega
  have hk2 : kB1 x k ≤ kB2 x k := by unfold kB2; omega
  clear t3 t2
  unfold bookV
  have v0 : Below w.heap.size w (w.alloc (.cells #[.slice af x.foes.length cf, .slice ap x.spots.length cp, .slice av x.valves.length cv, .slice aq x.parts.length cq, .int .i64 x.seen] 28)) := (Below.refl _ _).alloc (Nat.le_refl _) _
  have i0 := Row.new w 28 [.slice af x.foes.length cf, .slice ap x.spots.length cp, .slice av x.valves.length cv, .slice aq x.parts.length cq, .int .i64 x.seen]
  have o0 := h.later v0
  have hfo := h.foes
  have hout : ¬ InBk x af ap av aq A1 A2 w.heap.size := fun hx => Nat.lt_irrefl _ (h.lt hx)
  go_enter Tryz.func23, Tryz.ntmps23
  go_wp2_with fail
  refine (markFoeS_any af x.foes.length cf k _ o0.foes.slot h0 (by omega)).mono ?_
  rintro e w1 ⟨rfl, g0, O1⟩
  have i1 := Row.only i0 O1 (fun hx => hout (Or.inl hx))
  have s1 := o0.spots.only O1 (fun y hy hy' => h.d01 y hy' hy)
  have u1 := o0.valves.only O1 (fun y hy hy' => h.d02 y hy' hy)
  have p1 := o0.parts.only O1 (fun y hy hy' => h.d03 y hy' hy)
  have W1 := (Only.of (B := InBk x af ap av aq A1 A2) v0).trans (O1.mono fun y hy => Or.inl hy)
  rw [← e1]
  have q1 := i1.cell 1 rfl
  clear i0 v0 o0 O1
  go_wp2_with fail
  refine (markSpotS_own ap x.spots cp A1 C1 (kB1 x k) w1 s1 (by omega) (by show kB2 x k ≤ _; omega)).mono ?_
  rintro e w2 ⟨rfl, g1, O2⟩
  have i2 := i1.only O2 (fun hx => hout (Or.inr (Or.inl hx)))
  have g0 := g0.only O2 (fun y hy hy' => h.d01 y hy hy')
  have u2 := u1.only O2 (fun y hy hy' => h.d12 y hy' hy)
  have p2 := p1.only O2 (fun y hy hy' => h.d13 y hy' hy)
  have W2 := W1.trans (O2.mono fun y hy => Or.inr (Or.inl hy))
  have q2 := i2.cell 2 rfl
  clear i1 s1 u1 p1 W1 O2 q1
  rw [show kSp (fun i => (gp x.spots i).may.length) (kB1 x k) x.spots.length = kB2 x k from rfl]
  go_wp2_with fail
  refine (markStrings_any av x.valves.length cv (kB2 x k) w2 u2.slot (by omega) (by omega)).mono ?_
  rintro e w3 ⟨rfl, g2, O3⟩
  have i3 := i2.only O3 (fun hx => hout (Or.inr (Or.inr (Or.inl hx))))
  have g0 := g0.only O3 (fun y hy hy' => h.d02 y hy hy')
  have g1 := g1.only O3 (fun y hy hy' => h.d12 y hy hy')
  have p3 := p2.only O3 (fun y hy hy' => h.d23 y hy' hy)
  have W3 := W2.trans (O3.mono fun y hy => Or.inr (Or.inr (Or.inl hy)))
  have q3 := i3.cell 3 rfl
  clear i2 u2 p2 W2 O3 q2
  rw [← e3]
  go_wp2_with fail
  refine (markPartS_own aq x.parts cq A2 C2 (kB3 x k) w3 p3 (by omega) h1).mono ?_
  rintro e w4 ⟨rfl, g3, O4⟩
  have g0 := g0.only O4 (fun y hy hy' => h.d03 y hy hy')
  have g1 := g1.only O4 (fun y hy hy' => h.d13 y hy hy')
  have g2 := g2.only O4 (fun y hy hy' => h.d23 y hy hy')
  have W4 := W3.trans (O4.mono fun y hy => Or.inr (Or.inr (Or.inr hy)))
  clear i3 p3 W3 O4 q3
  go_wp2
  go_ret
  exact ⟨rfl, ⟨g0, g1, g2, g3⟩, W4⟩

end Go.Proofs.YtfmhkicncgccjaaGreat

/- Marks held in a book. -/
namespace Go.Proofs.YtfmhkicncgccjaaGreat
open Go.RowKit Go.Sort
set_option linter.unusedSimpArgs false
set_option linter.unusedVariables false

set_option maxHeartbeats 1000000 in
theorem heldFoes0 (a : Option Addr) (cap : Nat) (k : Int) (w : World) :
    Calls Tryz.prog 66 #[.slice a 0 cap, .int .i64 k] w fun e w' => e = .returned (.int .i64 k) ∧ w' = w := by
  go_enter Tryz.func66, Tryz.ntmps66
  go_wp2
  go_loopw [1, 5] (fun kk i wv => wv = w ∧ i = .int .i64 0 ∧ kk = .int .i64 k) (fun _ _ _ => 0)
  case atStart => exact ⟨rfl, rfl, rfl⟩
  case round =>
    obtain ⟨rfl, rfl, rfl⟩ := hrel
    go_wp2
    go_ret
    exact ⟨rfl, rfl⟩
set_option maxHeartbeats 1000000 in
theorem heldSpots0 (a : Option Addr) (cap : Nat) (k : Int) (w : World) :
    Calls Tryz.prog 67 #[.slice a 0 cap, .int .i64 k] w fun e w' => e = .returned (.int .i64 k) ∧ w' = w := by
  go_enter Tryz.func67, Tryz.ntmps67
  go_wp2
  go_loopw [1, 5] (fun kk i wv => wv = w ∧ i = .int .i64 0 ∧ kk = .int .i64 k) (fun _ _ _ => 0)
  case atStart => exact ⟨rfl, rfl, rfl⟩
  case round =>
    obtain ⟨rfl, rfl, rfl⟩ := hrel
    go_wp2
    go_ret
    exact ⟨rfl, rfl⟩
set_option maxHeartbeats 1000000 in
theorem heldParts0 (a : Option Addr) (cap : Nat) (k : Int) (w : World) :
    Calls Tryz.prog 69 #[.slice a 0 cap, .int .i64 k] w fun e w' => e = .returned (.int .i64 k) ∧ w' = w := by
  go_enter Tryz.func69, Tryz.ntmps69
  go_wp2
  go_loopw [1, 5] (fun kk i wv => wv = w ∧ i = .int .i64 0 ∧ kk = .int .i64 k) (fun _ _ _ => 0)
  case atStart => exact ⟨rfl, rfl, rfl⟩
  case round =>
    obtain ⟨rfl, rfl, rfl⟩ := hrel
    go_wp2
    go_ret
    exact ⟨rfl, rfl⟩

theorem heldFoeS_any (a : Option Addr) (n cap : Nat) (k : Int) (w : World) (h : SlotG w 70 2 a n (gFoe k)) (h0 : 0 ≤ k) (h1 : k + n * 2 ≤ 1000000000) :
    Calls Tryz.prog 66 #[.slice a n cap, .int .i64 k] w fun e w' => e = .returned (.int .i64 (k + (n * 2 : Nat))) ∧ Below w.heap.size w w' := by
  by_cases hn : n = 0
  · subst hn
    refine (heldFoes0 a cap k w).mono ?_
    rintro e w' ⟨rfl, rfl⟩
    exact ⟨by simp, Below.refl _ _⟩
  · rcases h with h | ⟨b, l, rfl, hr, hl⟩
    · exact absurd h hn
    · exact heldFoes_any b n cap l k w hr h0 h1

theorem heldSpotS_any (a : Option Addr) (n cap : Nat) (A : Nat → Option Addr) (L C : Nat → Nat) (k : Int) (w : World) (h : SpotsG w a n A L C k) (h0 : 0 ≤ k) (h1 : kSp L k n ≤ 1000000000) :
    Calls Tryz.prog 67 #[.slice a n cap, .int .i64 k] w fun e w' => e = .returned (.int .i64 (kSp L k n)) ∧ Below w.heap.size w w' := by
  by_cases hn : n = 0
  · subst hn
    refine (heldSpots0 a cap k w).mono ?_
    rintro e w' ⟨rfl, rfl⟩
    exact ⟨rfl, Below.refl _ _⟩
  · rcases h with h | ⟨b, l, rfl, hr, hs⟩
    · exact absurd h hn
    · exact heldSpots_any b n cap l A L C k w hr hs h0 h1
theorem heldPartS_any (a : Option Addr) (n cap : Nat) (A : Nat → Nat → Option Addr) (L C : Nat → Nat → Nat) (k : Int) (w : World) (h : PartsG w a n A L C k) (h0 : 0 ≤ k) (h1 : kPt L k n ≤ 1000000000) :
    Calls Tryz.prog 69 #[.slice a n cap, .int .i64 k] w fun e w' => e = .returned (.int .i64 (kPt L k n)) ∧ Below w.heap.size w w' := by
  by_cases hn : n = 0
  · subst hn
    refine (heldParts0 a cap k w).mono ?_
    rintro e w' ⟨rfl, rfl⟩
    exact ⟨rfl, Below.refl _ _⟩
  · rcases h with h | ⟨b, l, rfl, hr, hs⟩
    · exact absurd h hn
    · exact heldParts_any b n cap l A L C k w hr hs h0 h1

set_option maxRecDepth 100000 in
set_option maxHeartbeats 2000000 in
theorem heldBook_any (x : Book) (af ap av aq : Option Addr) (cf cp cv cq : Nat) (A1 : Nat → Option Addr) (C1 : Nat → Nat) (A2 : Nat → Nat → Option Addr) (C2 : Nat → Nat → Nat) (k : Int) (w : World) (h : BookG w x af ap av aq A1 C1 A2 C2 k) (h0 : 0 ≤ k) (h1 : kB4 x k ≤ 1000000000) :
    Calls Tryz.prog 24 #[bookV x af ap av aq cf cp cv cq, .int .i64 k] w fun e w' => e = .returned (.int .i64 (kB4 x k)) ∧ Below w.heap.size w w' := by
  have t3 := kPt_ge (fun i => pL (gq x.parts i)) (kB3 x k) x.parts.length
  have t2 := kSp_ge (fun i => (gp x.spots i).may.length) (kB1 x k) x.spots.length
  have e3 : kB3 x k = kB2 x k + x.valves.length := rfl
  have e1 : kB1 x k = k + (x.foes.length * 2 : Nat) := rfl
  have hk4 : kB3 x k ≤ kB4 x k := by unfold kB4; omega
  have hk2 : kB1 x k ≤ kB2 x k := by unfold kB2; omega
  have n1 : ¬ kB1 x k < 0 := by omega
  have n2 : ¬ kB2 x k < 0 := by omega
  have n3 : ¬ kB3 x k < 0 := by omega
  have n4 : ¬ kB4 x k < 0 := by omega
  clear t3 t2
  unfold bookV
  have b0 : Below w.heap.size w (w.alloc (.cells #[.slice af x.foes.length cf, .slice ap x.spots.length cp, .slice av x.valves.length cv, .slice aq x.parts.length cq, .int .i64 x.seen] 28)) := (Below.refl _ _).alloc (Nat.le_refl _) _
  have i0 := Row.new w 28 [.slice af x.foes.length cf, .slice ap x.spots.length cp, .slice av x.valves.length cv, .slice aq x.parts.length cq, .int .i64 x.seen]
  go_enter Tryz.func24, Tryz.ntmps24
  go_wp2_with fail
  refine (heldFoeS_any af x.foes.length cf k _ (h.later b0).foes h0 (by omega)).mono ?_
  rintro e w1 ⟨rfl, hb⟩
  have b1 := b0.trans (hb.mono b0.size)
  have i1 := i0.later hb
  have q1 := i1.cell 1 rfl
  rw [← e1]
  clear b0 i0 hb
  go_wp2_with fail
  refine (heldSpotS_any ap x.spots.length cp A1 _ C1 (kB1 x k) _ (h.later b1).spots (by omega) (by show kB2 x k ≤ _; omega)).mono ?_
  rintro e w2 ⟨rfl, hb⟩
  have b2 := b1.trans (hb.mono b1.size)
  have i2 := i1.later hb
  have q2 := i2.cell 2 rfl
  rw [show kSp (fun i => (gp x.spots i).may.length) (kB1 x k) x.spots.length = kB2 x k from rfl]
  clear b1 i1 hb q1
  go_wp2_with fail
  refine (heldStrings_any av x.valves.length cv (kB2 x k) _ (h.later b2).valves (by omega) (by omega)).mono ?_
  rintro e w3 ⟨rfl, hb⟩
  have b3 := b2.trans (hb.mono b2.size)
  have i3 := i2.later hb
  have q3 := i3.cell 3 rfl
  rw [← e3]
  clear b2 i2 hb q2
  go_wp2_with fail
  refine (heldPartS_any aq x.parts.length cq A2 _ C2 (kB3 x k) _ (h.later b3).parts (by omega) h1).mono ?_
  rintro e w4 ⟨rfl, hb⟩
  have b4 := b3.trans (hb.mono b3.size)
  rw [show kPt (fun i => pL (gq x.parts i)) (kB3 x k) x.parts.length = kB4 x k from rfl]
  clear b3 i3 hb q3
  go_wp2
  go_ret
  exact ⟨rfl, b4⟩

end Go.Proofs.YtfmhkicncgccjaaGreat

