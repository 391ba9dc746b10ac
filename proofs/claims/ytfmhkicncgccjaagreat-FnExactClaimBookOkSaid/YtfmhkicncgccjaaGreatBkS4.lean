/- What the specification's l2SpotOk, l2Knows and l2UseOk answer. -/
import Derived.Test.YtfmhkicncgccjaaGreatBkS2
namespace Go.Proofs.YtfmhkicncgccjaaGreat
open Go.RowKit Go.Sort
set_option linter.unusedSimpArgs false
set_option linter.unusedVariables false

/-- A spot is ok by itself, as the specification asks. -/
def spotOkB (fs : List Foe) (s : Spot) : Bool :=
  nameB s.name && inB s.cap 0 1000 && inB s.least 0 s.most && decide (s.most ≤ s.cap) && namesB s.may 8 && allTo s.may.length (fun i => !clashB fs (gs s.may i) s.may)

theorem spotOkB_last {fs : List Foe} {s : Spot} (h1 : nameB s.name = true) (h2 : inB s.cap 0 1000 = true) (h3 : inB s.least 0 s.most = true) (h4 : decide (s.most ≤ s.cap) = true) (h5 : namesB s.may 8 = true) :
    spotOkB fs s = allTo s.may.length (fun i => !clashB fs (gs s.may i) s.may) := by unfold spotOkB; rw [h1, h2, h3, h4, h5]; rfl

set_option maxRecDepth 100000 in
set_option maxHeartbeats 2000000 in
theorem l2SpotOk_any (x : Book) (af ap av aq : Option Addr) (cf cp cv cq : Nat) (s : Spot) (m : Option Addr) (c : Nat) (w : World) (hm : FoesAt w af x.foes) (hl : x.foes.length ≤ maxLen) (hs : StrsAt w m s.may) (hf : s.name.size ≤ maxLen ∧ Fit s.may) :
    Calls Tryz.prog 46 #[bookV x af ap av aq cf cp cv cq, spotV s m c] w fun e w' => e = .returned (.bool (spotOkB x.foes s)) ∧ Below w.heap.size w w' := by
  have hls := hf.2.1
  unfold maxLen at hls
  unfold bookV spotV
  have b0 : Below w.heap.size w ((w.alloc (.cells #[.slice af x.foes.length cf, .slice ap x.spots.length cp, .slice av x.valves.length cv, .slice aq x.parts.length cq, .int .i64 x.seen] 28)).alloc (.cells #[.string s.name, .int .i64 s.cap, .int .i64 s.least, .int .i64 s.most, .slice m s.may.length c] 72)) :=
    ((Below.refl _ _).alloc (Nat.le_refl _) _).alloc (by simp) _
  have i0 : Row ((w.alloc (.cells #[.slice af x.foes.length cf, .slice ap x.spots.length cp, .slice av x.valves.length cv, .slice aq x.parts.length cq, .int .i64 x.seen] 28)).alloc (.cells #[.string s.name, .int .i64 s.cap, .int .i64 s.least, .int .i64 s.most, .slice m s.may.length c] 72)) w.heap.size 28 (bookL x af ap av aq cf cp cv cq) := (Row.new w 28 (bookL x af ap av aq cf cp cv cq)).alloc _
  have o0 : Row ((w.alloc (.cells #[.slice af x.foes.length cf, .slice ap x.spots.length cp, .slice av x.valves.length cv, .slice aq x.parts.length cq, .int .i64 x.seen] 28)).alloc (.cells #[.string s.name, .int .i64 s.cap, .int .i64 s.least, .int .i64 s.most, .slice m s.may.length c] 72)) (w.heap.size + 1) 72 [.string s.name, .int .i64 s.cap, .int .i64 s.least, .int .i64 s.most, .slice m s.may.length c] := by
    have := Row.new (w.alloc (.cells #[.slice af x.foes.length cf, .slice ap x.spots.length cp, .slice av x.valves.length cv, .slice aq x.parts.length cq, .int .i64 x.seen] 28)) 72 [.string s.name, .int .i64 s.cap, .int .i64 s.least, .int .i64 s.most, .slice m s.may.length c]
    simpa using this
  go_enter Tryz.func46, Tryz.ntmps46
  go_wp2_with fail
  refine (l1NameOk_any s.name _ hf.1).mono ?_
  rintro e w' ⟨rfl, rfl⟩
  cases h1 : nameB s.name with
  | false =>
    go_wp2
    go_ret
    exact ⟨ret_bool (by simp [spotOkB, h1]), b0⟩
  | true =>
  go_wp2_with fail
  refine (l1In_any _ _ _ _).mono ?_
  rintro e w' ⟨rfl, rfl⟩
  cases h2 : inB s.cap 0 1000 with
  | false =>
    go_wp2
    go_ret
    exact ⟨ret_bool (by simp [spotOkB, h2]), b0⟩
  | true =>
  go_wp2_with fail
  refine (l1In_any _ _ _ _).mono ?_
  rintro e w' ⟨rfl, rfl⟩
  cases h3 : inB s.least 0 s.most with
  | false =>
    go_wp2
    go_ret
    exact ⟨ret_bool (by simp [spotOkB, h3]), b0⟩
  | true =>
  by_cases h4 : s.most ≤ s.cap
  case neg =>
    have h4' : s.cap < s.most := by omega
    clear h4
    go_wp2
    go_ret
    refine ⟨ret_bool ?_, b0⟩
    unfold spotOkB
    rw [decide_eq_false (by omega)]
    simp
  have h4' : ¬ s.cap < s.most := by omega
  go_wp2_with fail
  refine (l1NamesOk_any m c s.may 8 _ (hs.later b0) hf.2).mono ?_
  rintro e w1 ⟨rfl, hb⟩
  have b1 := b0.trans (hb.mono b0.size)
  have i1 := i0.later hb
  have o1 := o0.later hb
  clear b0 i0 o0 hb
  cases h5 : namesB s.may 8 with
  | false =>
    go_wp2
    go_ret
    exact ⟨ret_bool (by simp [spotOkB, h5]), b1⟩
  | true =>
  have hlast := spotOkB_last (fs := x.foes) h1 h2 h3 (decide_eq_true h4) h5
  have HL : Hid (spotOkB x.foes s = allTo s.may.length (fun i => !clashB x.foes (gs s.may i) s.may)) := hlast
  clear hlast
  go_wp2
  go_loopw [5] (fun i wr => ∃ (k : Nat), k ≤ s.may.length ∧ i = .int .i64 k ∧ allTo k (fun i => !clashB x.foes (gs s.may i) s.may) = true ∧ Below w1.heap.size w1 wr) (fun i _ => s.may.length - (intOf i).toNat)
  case atStart => exact ⟨0, Nat.zero_le _, rfl, rfl, Below.refl _ _⟩
  case round wr =>
    obtain ⟨k, hk, rfl, hall, hbel⟩ := hrel
    have hbw := b1.trans (hbel.mono b1.size)
    have i2 := i1.later hbel
    have o2 := o1.later hbel
    have y4 := o2.cell 4 rfl
    by_cases hlt : k < s.may.length
    · obtain ⟨b, o, ha, hb, hc⟩ := (hs.later hbw).at hlt
      subst ha
      have r0 := cell_regrown (i2.cell 0 rfl)
      have r1 := cell_regrown (i2.cell 1 rfl)
      have r2 := cell_regrown (i2.cell 2 rfl)
      have r3 := cell_regrown (i2.cell 3 rfl)
      have r4 := cell_regrown (i2.cell 4 rfl)
      have s4 := cell_regrown y4
      have rc := cell_regrown hc
      have hcall := fun d os => Calls.regrown_of (w := wr) (l2Clash_any x af ap av aq cf cp cv cq (gs s.may k) _ c s.may (grow (redrawn wr d) os) (hm.later (hbw.trans ((below_regrown wr d os).mono hbw.size))) hl (hs.later (hbw.trans ((below_regrown wr d os).mono hbw.size))) hf.2.1)
      unfold bookV at hcall
      have hlt2 : (k : Int) < s.may.length := by omega
      clear hc i2 o2
      go_wp2
      refine wp_region_quiet_below (by kernel_rfl) (by kernel_rfl) ?_
      repeat (quiet_step (exact hcall _ _))
      refine wpQuiet_nil ?_
      intro w2 hw'
      obtain ⟨⟨dq, osq⟩, hw''⟩ := hw'
      have hbel1 := hbel.trans ((hw'' ▸ below_regrown wr dq osq).mono hbel.size)
      clear hw'' hcall r0 r1 r2 r3 r4 rc s4
      cases hq : clashB x.foes (gs s.may k) s.may with
      | true =>
        go_wp2
        go_ret
        exact ⟨ret_bool (by rw [HL.out]; exact (allTo_false k hlt (by simp [hq])).symm), b1.trans (hbel1.mono b1.size)⟩
      | false =>
        go_wp2
        go_roundw
        case rel => exact ⟨k + 1, by omega, by go_num, allTo_succ hall (by simp [hq]), hbel1⟩
        case measure => simp [intOf]; omega
    · go_wp2
      go_ret
      have : k = s.may.length := by omega
      subst this
      exact ⟨ret_bool (by rw [HL.out]; exact hall.symm), hbw⟩

end Go.Proofs.YtfmhkicncgccjaaGreat
