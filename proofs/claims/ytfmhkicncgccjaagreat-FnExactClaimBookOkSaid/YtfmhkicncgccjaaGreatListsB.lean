/- What the functions on lists of uses answer that copy, count and compare; lists of texts compared. -/
import Derived.Test.YtfmhkicncgccjaaGreatLists
namespace Go.Proofs.YtfmhkicncgccjaaGreat
open Go.RowKit Go.Sort

set_option maxHeartbeats 400000 in
theorem szClaimUseS_any (a : Option Addr) (cap : Nat) (us : List Use) (left : Int) (w : World) (hm : UsesAt w a us) (hl : us.length ≤ maxLen) (hs : ∀ u ∈ us, u.name.size ≤ maxLen) (h0 : -1 ≤ left) (h1 : left ≤ 1048576) :
    Calls Tryz.prog 153 #[.slice a us.length cap, .int .i64 left] w fun e w' => (∃ r : Int, e = .returned (.int .i64 r) ∧ -1 ≤ r ∧ r ≤ left ∧ (0 ≤ r → us.length ≤ 1048576)) ∧ Below w.heap.size w w' := by
  unfold maxLen at hl
  by_cases hneg : left - us.length < 0
  · go_enter Tryz.func153, Tryz.ntmps153
    go_wp2
    go_ret
    exact ⟨⟨-1, rfl, by omega, by omega, by omega⟩, Below.refl _ _⟩
  · go_enter Tryz.func153, Tryz.ntmps153
    go_wp2
    go_loopw [1, 5] (fun t i wr => ∃ (k : Nat) (l : Int), k ≤ us.length ∧ i = .int .i64 k ∧ t = .int .i64 l ∧ 0 ≤ l ∧ l ≤ left ∧ Below w.heap.size w wr) (fun _ i _ => us.length - (intOf i).toNat)
    case atStart => exact ⟨0, _, Nat.zero_le _, rfl, rfl, by omega, by omega, Below.refl _ _⟩
    case round =>
      obtain ⟨k, l, hk, rfl, rfl, hl0, hl1, hbel⟩ := hrel
      by_cases hlt : k < us.length
      · obtain ⟨b, o, ha, hb, hc0, hc1, hc2⟩ := (hm.later hbel).at hlt
        have hsz : (gu us k).name.size ≤ maxLen := hs _ (gu_mem hlt)
        clear hs
        generalize gu us k = u at hc0 hc1 hc2 hsz
        subst ha
        go_wp2_with (go_at_call 168; refine (szClaimUse_any u l _ hsz (by omega) (by omega)).mono ?_; rintro e w1 ⟨⟨r, rfl, hr0, hr1⟩, hb1⟩)
        · go_ret
          exact ⟨⟨-1, rfl, by omega, by omega, by omega⟩, hbel.trans (hb1.mono hbel.size)⟩
        · go_roundw
          case rel => exact ⟨k + 1, r, by omega, by go_num, rfl, by omega, by omega, hbel.trans (hb1.mono hbel.size)⟩
          case measure => simp [intOf]; omega
      · go_wp2
        go_ret
        exact ⟨⟨l, rfl, by omega, by omega, by omega⟩, hbel⟩

theorem infoUse : (Tryz.prog.info? 101).map (fun i => (i.zero, i.size, i.bytes)) = some (some (.agg #[.string .empty, .int .i64 0, .int .i64 0]), 3, 32) := by kernel_rfl

theorem make_uses (n : Nat) (hn : n ≤ 1048576) (w : World) :
    (Instr.makeSlice 36 (.int .i64 (n : Int)) (.int .i64 (n : Int))).run Tryz.prog w = .ok (.slice (some ⟨w.heap.size, 0, none⟩) n n) (w.alloc (.cells (madeCells #[.string .empty, .int .i64 0, .int .i64 0] (n * 3)) 101)) := by
  obtain ⟨i, hi, hz, hs, hb⟩ := info_parts infoUse
  have hr := run_make (P := Tryz.prog) w 36 101 i _ Tryz.underlying36 hi hz .i64 .i64 n n (by omega) (Int.le_refl _) (by rw [hb]; omega) (by omega)
  simp only [Int.toNat_natCast, hs] at hr
  exact hr

theorem rowIs_made3 (w : World) (x y z : Value) (n : Nat) (t : TypeId) : (w.alloc (.cells (madeCells #[x, y, z] (n * 3)) t)).rowIs w.heap.size t (n * 3) (fun i => (#[x, y, z] : Array Value)[i % 3]!) :=
  ⟨madeCells #[x, y, z] (n * 3), Go.Deep.blk_alloc_new _ _, size_madeCells _ _, fun i hi => by simp [madeCells, hi]⟩

set_option maxHeartbeats 400000 in
theorem toClaimUseS_any (a : Option Addr) (cap : Nat) (us : List Use) (w : World) (hm : UsesAt w a us) (hroom : us.length ≤ 1048576) :
    Calls Tryz.prog 156 #[.slice a us.length cap] w fun e w' => (∃ b, e = .returned (.slice (some ⟨b, 0, none⟩) us.length us.length) ∧ w.heap.size ≤ b ∧ UsesAt w' (some ⟨b, 0, none⟩) us) ∧ Below w.heap.size w w' := by
  have hmk := make_uses us.length hroom
  go_enter Tryz.func156, Tryz.ntmps156
  go_wp2
  go_loopw [4] (fun i wr => ∃ (k : Nat) (g : Nat → Value), k ≤ us.length ∧ i = .int .i64 k ∧ wr.rowIs w.heap.size 101 (us.length * 3) g ∧ (∀ j, j < k → ∀ c, c < 3 → g (j * 3 + c) = useCell (gu us j) c) ∧ Below w.heap.size w wr) (fun i _ => us.length - (intOf i).toNat)
  case atStart =>
    exact ⟨0, _, Nat.zero_le _, rfl, rowIs_made3 w _ _ _ _ _, fun j hj => absurd hj (Nat.not_lt_zero _), (Below.refl _ _).alloc (Nat.le_refl _) _⟩
  case round =>
    obtain ⟨k, g, hk, rfl, hrow, hg, hbel⟩ := hrel
    clear hmk
    by_cases hlt : k < us.length
    · obtain ⟨b, o, ha, hb, hc0, hc1, hc2⟩ := (hm.later hbel).at hlt
      subst ha
      go_wp2_with fail
      refine (toClaimUse_any (gu us k) _).mono ?_
      rintro e w1 ⟨rfl, hb1⟩
      have hrow1 : w1.rowIs w.heap.size 101 (us.length * 3) g := hrow.of_block (hb1.block _ hrow.lt)
      have hq0 := hrow1.cell (i := k * 3) (by omega)
      have hq1 := hrow1.cell (i := k * 3 + 1) (by omega)
      have hq2 := hrow1.cell (i := k * 3 + 1 + 1) (by omega)
      have hf0 := hrow1.frozen (k * 3)
      have hf1 := hrow1.frozen (k * 3 + 1)
      have hf2 := hrow1.frozen (k * 3 + 1 + 1)
      unfold useV
      clear hc0 hc1 hc2
      go_wp2
      have hbel1 : Below w.heap.size w w1 := hbel.trans (hb1.mono hbel.size)
      go_roundw
      case rel =>
        refine ⟨k + 1, _, by omega, by go_num, ((hrow1.set (k * 3) _).set (k * 3 + 1) _).set (k * 3 + 2) _, ?_, ((hbel1.setCell (Nat.le_refl _) _).setCell (Nat.le_refl _) _).setCell (Nat.le_refl _) _⟩
        intro j hj c hc
        by_cases e : j = k
        · subst e
          match c, hc with
          | 0, _ => simp [useCell]
          | 1, _ => simp [useCell]
          | 2, _ => simp [useCell]
        · have := hg j (by omega) c hc
          rw [← this]
          rw [if_neg (by omega), if_neg (by omega), if_neg (by omega)]
      case measure => simp [intOf]; omega
    · have : k = us.length := by omega
      subst this
      go_wp2
      go_ret
      refine ⟨⟨w.heap.size, rfl, Nat.le_refl _, fun k hk => ⟨w.heap.size, 0, rfl, hrow.lt, fun j hj => ?_⟩⟩, hbel⟩
      have := hrow.cell (i := k * 3 + j) (by omega)
      rw [hg k hk j hj] at this
      simpa using this

def eqSS (xs ys : List ByteArray) : Bool := decide (xs.length = ys.length) && allTo xs.length (fun i => eqS (gs xs i) (gs ys i))
def eqUU (xs ys : List Use) : Bool := decide (xs.length = ys.length) && allTo xs.length (fun i => eqU (gu xs i) (gu ys i))

set_option maxHeartbeats 400000 in
theorem eqStringS_any (a b : Option Addr) (ca cb : Nat) (xs ys : List ByteArray) (w : World) (hx : StrsAt w a xs) (hy : StrsAt w b ys) (lx : xs.length ≤ maxLen) :
    Calls Tryz.prog 60 #[.slice a xs.length ca, .slice b ys.length cb] w fun e w' => e = .returned (.bool (eqSS xs ys)) ∧ Below w.heap.size w w' := by
  unfold maxLen at lx
  by_cases hlen : xs.length = ys.length
  · have hl1 : ((xs.length : Int) != (ys.length : Int)) = false := by simp [hlen]
    go_enter Tryz.func60, Tryz.ntmps60
    go_wp2
    go_loopw [5] (fun i wr => ∃ (k : Nat), k ≤ xs.length ∧ i = .int .i64 k ∧ allTo k (fun i => eqS (gs xs i) (gs ys i)) = true ∧ Below w.heap.size w wr) (fun i _ => xs.length - (intOf i).toNat)
    case atStart => exact ⟨0, Nat.zero_le _, rfl, rfl, Below.refl _ _⟩
    case round =>
      obtain ⟨k, hk, rfl, hall, hbel⟩ := hrel
      clear hl1
      by_cases hlt : k < xs.length
      · obtain ⟨b1, o1, ha1, hb1, hc1⟩ := (hx.later hbel).at hlt
        obtain ⟨b2, o2, ha2, hb2, hc2⟩ := (hy.later hbel).at (k := k) (by omega)
        subst ha1 ha2
        have hlt2 : (k : Int) < ys.length := by omega
        have HL : Hid (xs.length = ys.length) := hlen
        clear hlen
        cases hq : eqS (gs xs k) (gs ys k) with
        | true =>
          have hq' : ((gs xs k).toList == (gs ys k).toList) = true := hq
          go_wp2
          go_quiet (fail)
          go_wp2
          go_roundw
          case rel => exact ⟨k + 1, by omega, by go_num, allTo_succ hall hq, below_drewN hbel _⟩
          case measure => simp [intOf]; omega
        | false =>
          have hq' : ((gs xs k).toList == (gs ys k).toList) = false := hq
          go_wp2
          go_quiet (fail)
          go_wp2
          go_ret
          exact ⟨ret_bool (by unfold eqSS; rw [allTo_false k hlt hq, Bool.and_false]), below_drewN hbel _⟩
      · go_wp2
        go_ret
        have : k = xs.length := by omega
        subst this
        exact ⟨ret_bool (by unfold eqSS; rw [hall]; simp [hlen]), hbel⟩
  · have hl1 : ((xs.length : Int) != (ys.length : Int)) = true := by simp; omega
    go_enter Tryz.func60, Tryz.ntmps60
    go_wp2
    go_ret
    exact ⟨ret_bool (by unfold eqSS; simp [hlen]), Below.refl _ _⟩


set_option maxHeartbeats 400000 in
theorem eqClaimUseS_any (a b : Option Addr) (ca cb : Nat) (xs ys : List Use) (w : World) (hx : UsesAt w a xs) (hy : UsesAt w b ys) (lx : xs.length ≤ maxLen) :
    Calls Tryz.prog 161 #[.slice a xs.length ca, .slice b ys.length cb] w fun e w' => e = .returned (.bool (eqUU xs ys)) ∧ Below w.heap.size w w' := by
  unfold maxLen at lx
  by_cases hlen : xs.length = ys.length
  · have hl1 : ((xs.length : Int) != (ys.length : Int)) = false := by simp [hlen]
    go_enter Tryz.func161, Tryz.ntmps161
    go_wp2
    go_loopw [5] (fun i wr => ∃ (k : Nat), k ≤ xs.length ∧ i = .int .i64 k ∧ allTo k (fun i => eqU (gu xs i) (gu ys i)) = true ∧ Below w.heap.size w wr) (fun i _ => xs.length - (intOf i).toNat)
    case atStart => exact ⟨0, Nat.zero_le _, rfl, rfl, Below.refl _ _⟩
    case round wr =>
      obtain ⟨k, hk, rfl, hall, hbel⟩ := hrel
      clear hl1
      by_cases hlt : k < xs.length
      · obtain ⟨b1, o1, ha1, hb1, hc10, hc11, hc12⟩ := (hx.later hbel).at hlt
        obtain ⟨b2, o2, ha2, hb2, hc20, hc21, hc22⟩ := (hy.later hbel).at (k := k) (by omega)
        subst ha1 ha2
        have hlt2 : (k : Int) < ys.length := by omega
        have HL : Hid (xs.length = ys.length) := hlen
        clear hlen
        have r10 := cell_regrown hc10
        have r11 := cell_regrown hc11
        have r12 := cell_regrown hc12
        have r20 := cell_regrown hc20
        have r21 := cell_regrown hc21
        have r22 := cell_regrown hc22
        have hcall := fun d os => Calls.regrown_of (w := wr) (eqClaimUse_any (gu xs k) (gu ys k) (grow (redrawn wr d) os))
        unfold useV at hcall
        go_wp2
        refine wp_region_quiet_below (by kernel_rfl) (by kernel_rfl) ?_
        repeat (quiet_step (exact hcall _ _))
        refine wpQuiet_nil ?_
        intro w1 hw'
        obtain ⟨⟨dq, osq⟩, hw''⟩ := hw'
        have hbel1 : Below w.heap.size w w1 := hbel.trans ((hw'' ▸ below_regrown wr dq osq).mono hbel.size)
        clear hw''
        clear hcall r10 r11 r12 r20 r21 r22
        cases hq : eqU (gu xs k) (gu ys k) with
        | true =>
          go_wp2
          go_roundw
          case rel => exact ⟨k + 1, by omega, by go_num, allTo_succ hall hq, hbel1⟩
          case measure => simp [intOf]; omega
        | false =>
          go_wp2
          go_ret
          exact ⟨ret_bool (by unfold eqUU; rw [allTo_false k hlt hq, Bool.and_false]), hbel1⟩
      · go_wp2
        go_ret
        have : k = xs.length := by omega
        subst this
        exact ⟨ret_bool (by unfold eqUU; rw [hall]; simp [hlen]), hbel⟩
  · have hl1 : ((xs.length : Int) != (ys.length : Int)) = true := by simp; omega
    go_enter Tryz.func161, Tryz.ntmps161
    go_wp2
    go_ret
    exact ⟨ret_bool (by unfold eqUU; simp [hlen]), Below.refl _ _⟩

end Go.Proofs.YtfmhkicncgccjaaGreat
