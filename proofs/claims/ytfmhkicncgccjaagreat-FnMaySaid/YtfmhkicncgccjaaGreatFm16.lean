/- Joined: BkS2, BkS4, BkS5. -/
import Derived.Test.YtfmhkicncgccjaaGreatFm15
/- What the specification's l2Clash, l2FoesOk and l2SpotOk answer. -/
namespace Go.Proofs.YtfmhkicncgccjaaGreat
open Go.RowKit Go.Sort
set_option linter.unusedSimpArgs false
set_option linter.unusedVariables false

/-- The cells of a book. -/
def bookL (x : Book) (af ap av aq : Option Addr) (cf cp cv cq : Nat) : List Value :=
 [.slice af x.foes.length cf, .slice ap x.spots.length cp, .slice av x.valves.length cv, .slice aq x.parts.length cq, .int .i64 x.seen]

theorem bookRow {w wr : World} {x : Book} {af ap av aq : Option Addr} {cf cp cv cq : Nat} {t : TypeId}
 (h : Below (w.alloc (.cells (bookL x af ap av aq cf cp cv cq).toArray t)).heap.size (w.alloc (.cells (bookL x af ap av aq cf cp cv cq).toArray t)) wr) : Row wr w.heap.size t (bookL x af ap av aq cf cp cv cq) := (Row.new w t _).later h

set_option maxHeartbeats 1000000 in
theorem l2Clash_any (x : Book) (af ap av aq : Option Addr) (cf cp cv cq : Nat) (s : ByteArray) (a : Option Addr) (cap : Nat) (may : List ByteArray) (w : World) (hm : FoesAt w af x.foes) (hl : x.foes.length ≤ maxLen) (hs : StrsAt w a may) (hls : may.length ≤ maxLen) :
 Calls Tryz.prog 84 #[bookV x af ap av aq cf cp cv cq, .string s, .slice a may.length cap] w fun e w' => e = .returned (.bool (clashB x.foes s may)) ∧ Below w.heap.size w w' := by
 have hls' := hls
 unfold maxLen at hls'
 unfold bookV
 go_enter Tryz.func84, Tryz.ntmps84
 go_wp2
 go_loopw [7] (fun i wr => ∃ (k : Nat), k ≤ may.length ∧ i = .int .i64 k ∧ allTo k (fun i => !foesB x.foes s (gs may i)) = true ∧ Below (w.alloc (.cells (bookL x af ap av aq cf cp cv cq).toArray 28)).heap.size (w.alloc (.cells (bookL x af ap av aq cf cp cv cq).toArray 28)) wr) (fun i _ => may.length - (intOf i).toNat)
 case atStart => exact ⟨0, Nat.zero_le _, rfl, rfl, Below.refl _ _⟩
 case round wr =>
  obtain ⟨k, hk, rfl, hall, hbel⟩ := hrel
  have hbw := below_over hbel
  by_cases hlt : k < may.length
  · obtain ⟨b, o, ha, hb, hc⟩ := (hs.later hbw).at hlt
    subst ha
    have row := bookRow hbel
    have r0 := cell_regrown (row.cell 0 rfl)
    have r1 := cell_regrown (row.cell 1 rfl)
    have r2 := cell_regrown (row.cell 2 rfl)
    have r3 := cell_regrown (row.cell 3 rfl)
    have r4 := cell_regrown (row.cell 4 rfl)
    have rc := cell_regrown hc
    have hcall := fun d os => Calls.regrown_of (w := wr) (l2Foes_any x af ap av aq cf cp cv cq s (gs may k) (grow (redrawn wr d) os) (hm.later (hbw.trans ((below_regrown wr d os).mono hbw.size))) hl)
    unfold bookV at hcall
    have hlt2 : (k : Int) < may.length := by omega
    clear hc row
    go_wp2
    refine wp_region_quiet_below (by kernel_rfl) (by kernel_rfl) ?_
    repeat (quiet_step (exact hcall _ _))
    refine wpQuiet_nil ?_
    intro w1 hw'
    obtain ⟨⟨dq, osq⟩, hw''⟩ := hw'
    have hbel1 := hbel.trans ((hw'' ▸ below_regrown wr dq osq).mono hbel.size)
    clear hw'' hcall r0 r1 r2 r3 r4 rc
    cases hq : foesB x.foes s (gs may k) with
    | true =>
     go_wp2
     go_ret
     exact ⟨ret_bool (anyTo_true k hlt hq).symm, below_over hbel1⟩
    | false =>
     go_wp2
     go_roundw
     case rel => exact ⟨k + 1, by omega, by go_num, allTo_succ hall (by simp [hq]), hbel1⟩
     case measure => simp [intOf]; omega
  · go_wp2
    go_ret
    have : k = may.length := by omega
    subst this
    exact ⟨ret_bool (anyTo_none hall).symm, hbw⟩

end Go.Proofs.YtfmhkicncgccjaaGreat

/- What the specification's l2SpotOk, l2Knows and l2UseOk answer. -/
namespace Go.Proofs.YtfmhkicncgccjaaGreat
open Go.RowKit Go.Sort
set_option linter.unusedSimpArgs false
set_option linter.unusedVariables false

/-- A spot is ok by itself, as the specification asks. -/
def spotOkB (fs : List Foe) (s : Spot) : Bool :=
 nameB s.name && inB s.cap 0 1000 && inB s.least 0 s.most && decide (s.most ≤ s.cap) && namesB s.may 8 && allTo s.may.length (fun i => !clashB fs (gs s.may i) s.may)

theorem spotOkB_last {fs : List Foe} {s : Spot} (h1 : nameB s.name = true) (h2 : inB s.cap 0 1000 = true) (h3 : inB s.least 0 s.most = true) (h4 : decide (s.most ≤ s.cap) = true) (h5 : namesB s.may 8 = true) :
 spotOkB fs s = allTo s.may.length (fun i => !clashB fs (gs s.may i) s.may) := by unfold spotOkB; rw [h1, h2, h3, h4, h5]; rfl

set_option maxRecDepth 100000 in
set_option maxHeartbeats 2000000 in
theorem l2SpotOk_any (x : Book) (af ap av aq : Option Addr) (cf cp cv cq : Nat) (s : Spot) (m : Option Addr) (c : Nat) (w : World) (hm : FoesAt w af x.foes) (hl : x.foes.length ≤ maxLen) (hs : StrsAt w m s.may) (hf : s.name.size ≤ maxLen ∧ Fit s.may) :
 Calls Tryz.prog 46 #[bookV x af ap av aq cf cp cv cq, spotV s m c] w fun e w' => e = .returned (.bool (spotOkB x.foes s)) ∧ Below w.heap.size w w' := by
 have hls := hf.2.1
 unfold maxLen at hls
 unfold bookV spotV
 have b0 : Below w.heap.size w ((w.alloc (.cells #[.slice af x.foes.length cf, .slice ap x.spots.length cp, .slice av x.valves.length cv, .slice aq x.parts.length cq, .int .i64 x.seen] 28)).alloc (.cells #[.string s.name, .int .i64 s.cap, .int .i64 s.least, .int .i64 s.most, .slice m s.may.length c] 72)) :=
  ((Below.refl _ _).alloc (Nat.le_refl _) _).alloc (by simp) _
 have i0 : Row ((w.alloc (.cells #[.slice af x.foes.length cf, .slice ap x.spots.length cp, .slice av x.valves.length cv, .slice aq x.parts.length cq, .int .i64 x.seen] 28)).alloc (.cells #[.string s.name, .int .i64 s.cap, .int .i64 s.least, .int .i64 s.most, .slice m s.may.length c] 72)) w.heap.size 28 (bookL x af ap av aq cf cp cv cq) := (Row.new w 28 (bookL x af ap av aq cf cp cv cq)).alloc _
 have o0 : Row ((w.alloc (.cells #[.slice af x.foes.length cf, .slice ap x.spots.length cp, .slice av x.valves.length cv, .slice aq x.parts.length cq, .int .i64 x.seen] 28)).alloc (.cells #[.string s.name, .int .i64 s.cap, .int .i64 s.least, .int .i64 s.most, .slice m s.may.length c] 72)) (w.heap.size + 1) 72 [.string s.name, .int .i64 s.cap, .int .i64 s.least, .int .i64 s.most, .slice m s.may.length c] := by
  have := Row.new (w.alloc (.cells #[.slice af x.foes.length cf, .slice ap x.spots.length cp, .slice av x.valves.length cv, .slice aq x.parts.length cq, .int .i64 x.seen] 28)) 72 [.string s.name, .int .i64 s.cap, .int .i64 s.least, .int .i64 s.most, .slice m s.may.length c]
  simpa using this
 go_enter Tryz.func46, Tryz.ntmps46
 go_wp2_with fail
 refine (l1NameOk_any s.name _ hf.1).mono ?_
 rintro e w' ⟨rfl, rfl⟩
 cases h1 : nameB s.name with
 | false =>
  go_wp2
  go_ret
  exact ⟨ret_bool (by simp [spotOkB, h1]), b0⟩
 | true =>
 go_wp2_with fail
 refine (l1In_any _ _ _ _).mono ?_
 rintro e w' ⟨rfl, rfl⟩
 cases h2 : inB s.cap 0 1000 with
 | false =>
  go_wp2
  go_ret
  exact ⟨ret_bool (by simp [spotOkB, h2]), b0⟩
 | true =>
 go_wp2_with fail
 refine (l1In_any _ _ _ _).mono ?_
 rintro e w' ⟨rfl, rfl⟩
 cases h3 : inB s.least 0 s.most with
 | false =>
  go_wp2
  go_ret
  exact ⟨ret_bool (by simp [spotOkB, h3]), b0⟩
 | true =>
 by_cases h4 : s.most ≤ s.cap
 case neg =>
  have h4' : s.cap < s.most := by omega
  clear h4
  go_wp2
  go_ret
  refine ⟨ret_bool ?_, b0⟩
  unfold spotOkB
  rw [decide_eq_false (by omega)]
  simp
 have h4' : ¬ s.cap < s.most := by omega
 go_wp2_with fail
 refine (l1NamesOk_any m c s.may 8 _ (hs.later b0) hf.2).mono ?_
 rintro e w1 ⟨rfl, hb⟩
 have b1 := b0.trans (hb.mono b0.size)
 have i1 := i0.later hb
 have o1 := o0.later hb
 clear b0 i0 o0 hb
 cases h5 : namesB s.may 8 with
 | false =>
  go_wp2
  go_ret
  exact ⟨ret_bool (by simp [spotOkB, h5]), b1⟩
 | true =>
 have hlast := spotOkB_last (fs := x.foes) h1 h2 h3 (decide_eq_true h4) h5
 have HL : Hid (spotOkB x.foes s = allTo s.may.length (fun i => !clashB x.foes (gs s.may i) s.may)) := hlast
 clear hlast
 go_wp2
 go_loopw [5] (fun i wr => ∃ (k : Nat), k ≤ s.may.length ∧ i = .int .i64 k ∧ allTo k (fun i => !clashB x.foes (gs s.may i) s.may) = true ∧ Below w1.heap.size w1 wr) (fun i _ => s.may.length - (intOf i).toNat)
 case atStart => exact ⟨0, Nat.zero_le _, rfl, rfl, Below.refl _ _⟩
 case round wr =>
  obtain ⟨k, hk, rfl, hall, hbel⟩ := hrel
  have hbw := b1.trans (hbel.mono b1.size)
  have i2 := i1.later hbel
  have o2 := o1.later hbel
  have y4 := o2.cell 4 rfl
  by_cases hlt : k < s.may.length
  · obtain ⟨b, o, ha, hb, hc⟩ := (hs.later hbw).at hlt
    subst ha
    have r0 := cell_regrown (i2.cell 0 rfl)
    have r1 := cell_regrown (i2.cell 1 rfl)
    have r2 := cell_regrown (i2.cell 2 rfl)
    have r3 := cell_regrown (i2.cell 3 rfl)
    have r4 := cell_regrown (i2.cell 4 rfl)
    have s4 := cell_regrown y4
    have rc := cell_regrown hc
    have hcall := fun d os => Calls.regrown_of (w := wr) (l2Clash_any x af ap av aq cf cp cv cq (gs s.may k) _ c s.may (grow (redrawn wr d) os) (hm.later (hbw.trans ((below_regrown wr d os).mono hbw.size))) hl (hs.later (hbw.trans ((below_regrown wr d os).mono hbw.size))) hf.2.1)
    unfold bookV at hcall
    have hlt2 : (k : Int) < s.may.length := by omega
    clear hc i2 o2
    go_wp2
    refine wp_region_quiet_below (by kernel_rfl) (by kernel_rfl) ?_
    repeat (quiet_step (exact hcall _ _))
    refine wpQuiet_nil ?_
    intro w2 hw'
    obtain ⟨⟨dq, osq⟩, hw''⟩ := hw'
    have hbel1 := hbel.trans ((hw'' ▸ below_regrown wr dq osq).mono hbel.size)
    clear hw'' hcall r0 r1 r2 r3 r4 rc s4
    cases hq : clashB x.foes (gs s.may k) s.may with
    | true =>
     go_wp2
     go_ret
     exact ⟨ret_bool (by rw [HL.out]; exact (allTo_false k hlt (by simp [hq])).symm), b1.trans (hbel1.mono b1.size)⟩
    | false =>
     go_wp2
     go_roundw
     case rel => exact ⟨k + 1, by omega, by go_num, allTo_succ hall (by simp [hq]), hbel1⟩
     case measure => simp [intOf]; omega
  · go_wp2
    go_ret
    have : k = s.may.length := by omega
    subst this
    exact ⟨ret_bool (by rw [HL.out]; exact hall.symm), hbw⟩

end Go.Proofs.YtfmhkicncgccjaaGreat

/- What the specification's l2Knows and l2UseOk answer. -/
namespace Go.Proofs.YtfmhkicncgccjaaGreat
open Go.RowKit Go.Sort
set_option linter.unusedSimpArgs false
set_option linter.unusedVariables false

/-- A station knows a want. -/
def knowsB (x : Book) (y : Want) : Bool := allTo y.uses.length (fun i => decide (0 ≤ spotI x.spots (gu y.uses i).name)) && allB y.opens x.valves && allB y.shuts x.valves

/-- The cells of a want. -/
def wantL (y : Want) (a2 a3 a4 a5 : Option Addr) (c2 c3 c4 c5 : Nat) : List Value :=
 [.int .i64 y.number, .int .i64 y.kind, .slice a2 y.stuffs.length c2, .slice a3 y.uses.length c3, .slice a4 y.opens.length c4, .slice a5 y.shuts.length c5]

set_option maxRecDepth 100000 in
set_option maxHeartbeats 2000000 in
theorem l2Knows_any (x : Book) (af ap av aq : Option Addr) (cf cp cv cq : Nat) (y : Want) (a2 a3 a4 a5 : Option Addr) (c2 c3 c4 c5 : Nat) (w : World) (hx : BookIn w x af ap av aq) (hy : WantIn w y a2 a3 a4 a5) (fx : BookFit x) (fy : WantFit y) :
 Calls Tryz.prog 128 #[bookV x af ap av aq cf cp cv cq, wantW y a2 a3 a4 a5 c2 c3 c4 c5] w fun e w' => e = .returned (.bool (knowsB x y)) ∧ Below w.heap.size w w' := by
 have hl3 := fy.usesLen
 have hl4 := fy.opens.1
 have hl5 := fy.shuts.1
 unfold maxLen at hl3 hl4 hl5
 unfold bookV wantW
 have b0 : Below w.heap.size w ((w.alloc (.cells (bookL x af ap av aq cf cp cv cq).toArray 28)).alloc (.cells (wantL y a2 a3 a4 a5 c2 c3 c4 c5).toArray 38)) :=
  ((Below.refl _ _).alloc (Nat.le_refl _) _).alloc (by simp) _
 have i0 : Row ((w.alloc (.cells (bookL x af ap av aq cf cp cv cq).toArray 28)).alloc (.cells (wantL y a2 a3 a4 a5 c2 c3 c4 c5).toArray 38)) w.heap.size 28 (bookL x af ap av aq cf cp cv cq) := (Row.new w 28 (bookL x af ap av aq cf cp cv cq)).alloc _
 have o0 : Row ((w.alloc (.cells (bookL x af ap av aq cf cp cv cq).toArray 28)).alloc (.cells (wantL y a2 a3 a4 a5 c2 c3 c4 c5).toArray 38)) (w.heap.size + 1) 38 (wantL y a2 a3 a4 a5 c2 c3 c4 c5) := by
  have := Row.new (w.alloc (.cells (bookL x af ap av aq cf cp cv cq).toArray 28)) 38 (wantL y a2 a3 a4 a5 c2 c3 c4 c5)
  simpa using this
 go_enter Tryz.func128, Tryz.ntmps128
 go_wp2
 go_loopw [5] (fun i wr => ∃ (k : Nat), k ≤ y.uses.length ∧ i = .int .i64 k ∧ allTo k (fun i => decide (0 ≤ spotI x.spots (gu y.uses i).name)) = true ∧ Below ((w.alloc (.cells (bookL x af ap av aq cf cp cv cq).toArray 28)).alloc (.cells (wantL y a2 a3 a4 a5 c2 c3 c4 c5).toArray 38)).heap.size ((w.alloc (.cells (bookL x af ap av aq cf cp cv cq).toArray 28)).alloc (.cells (wantL y a2 a3 a4 a5 c2 c3 c4 c5).toArray 38)) wr) (fun i _ => y.uses.length - (intOf i).toNat)
 case atStart => exact ⟨0, Nat.zero_le _, rfl, rfl, Below.refl _ _⟩
 case round wr =>
  obtain ⟨k, hk, rfl, hall, hbel⟩ := hrel
  have hbw := b0.trans (hbel.mono b0.size)
  have i1 := i0.later hbel
  have o1 := o0.later hbel
  clear i0 o0
  have y3 := o1.cell 3 rfl
  by_cases hlt : k < y.uses.length
  · obtain ⟨b, o, ha, hb, hc0, hc1, hc2⟩ := (hy.later hbw).uses.at hlt
    subst ha
    have r0 := cell_regrown (i1.cell 0 rfl)
    have r1 := cell_regrown (i1.cell 1 rfl)
    have r2 := cell_regrown (i1.cell 2 rfl)
    have r3 := cell_regrown (i1.cell 3 rfl)
    have r4 := cell_regrown (i1.cell 4 rfl)
    have s3 := cell_regrown y3
    have rc := cell_regrown hc0
    have hcall := fun d os => Calls.regrown_of (w := wr) (l2Spot_any x af ap av aq cf cp cv cq (gu y.uses k).name (grow (redrawn wr d) os) (hx.later (hbw.trans ((below_regrown wr d os).mono hbw.size))).spots fx.spots.len)
    unfold bookV at hcall
    have hlt2 : (k : Int) < y.uses.length := by omega
    clear hc0 hc1 hc2 i1 o1
    go_wp2
    refine wp_region_quiet_below (by kernel_rfl) (by kernel_rfl) ?_
    repeat (quiet_step (exact hcall _ _))
    refine wpQuiet_nil ?_
    intro w2 hw'
    obtain ⟨⟨dq, osq⟩, hw''⟩ := hw'
    have hbel1 := hbel.trans ((hw'' ▸ below_regrown wr dq osq).mono hbel.size)
    clear hw'' hcall r0 r1 r2 r3 r4 rc s3
    generalize hsp : spotI x.spots (gu y.uses k).name = sp
    have HSP : Hid (spotI x.spots (gu y.uses k).name = sp) := hsp
    clear hsp
    by_cases hq : sp < 0
    · go_wp2
      go_ret
      exact ⟨ret_bool (by unfold knowsB; rw [allTo_false k hlt (by rw [HSP.out]; exact decide_eq_false (by omega))]; rfl), b0.trans (hbel1.mono b0.size)⟩
    · go_wp2
      go_roundw
      case rel => exact ⟨k + 1, by omega, by go_num, allTo_succ hall (by rw [HSP.out]; exact decide_eq_true (by omega)), hbel1⟩
      case measure => simp [intOf]; omega
  · have hkk : k = y.uses.length := by omega
    have HA1 : Hid (allTo y.uses.length (fun i => decide (0 ≤ spotI x.spots (gu y.uses i).name)) = true) := by rw [← hkk]; exact hall
    clear hall hkk
    go_wp2
    go_loopw [6] (fun i wv => ∃ (k : Nat) (w2 : World), w2 = wv ∧ k ≤ y.opens.length ∧ i = .int .i64 k ∧ allTo k (fun i => hasB x.valves (gs y.opens i)) = true ∧ Below wr.heap.size wr w2) (fun i _ => y.opens.length - (intOf i).toNat)
    case atStart => exact ⟨0, _, rfl, Nat.zero_le _, rfl, rfl, Below.refl _ _⟩
    case round =>
     obtain ⟨k2, w2, rfl, hk2, rfl, hall2, hbel2⟩ := hrel
     have hbw2 := hbw.trans (hbel2.mono hbw.size)
     have i2 := i1.later hbel2
     have o2 := o1.later hbel2
     have y4 := o2.cell 4 rfl
     by_cases hlt2 : k2 < y.opens.length
     · obtain ⟨b, o, ha, hb, hc⟩ := (hy.later hbw2).opens.at hlt2
       subst ha
       have r2 := cell_regrown (i2.cell 2 rfl)
       have s4 := cell_regrown y4
       have rc := cell_regrown hc
       have hcall := fun d os => Calls.regrown_of (w := w2) ((l1Has_any av cv x.valves (gs y.opens k2) (grow (redrawn w2 d) os) (hx.later (hbw2.trans ((below_regrown w2 d os).mono hbw2.size))).valves fx.valves.1).mono (fun _ _ h => ⟨h.1, h.2 ▸ Below.refl _ _⟩))
       have hlt3 : (k2 : Int) < y.opens.length := by omega
       clear hc i2 o2
       go_wp2
       refine wp_region_quiet_below (by kernel_rfl) (by kernel_rfl) ?_
       repeat (quiet_step (exact hcall _ _))
       refine wpQuiet_nil ?_
       intro w3 hw'
       obtain ⟨⟨dq, osq⟩, hw''⟩ := hw'
       have hbel3 := hbel2.trans ((hw'' ▸ below_regrown w2 dq osq).mono hbel2.size)
       clear hw'' hcall r2 rc s4
       cases hq : hasB x.valves (gs y.opens k2) with
       | false =>
        go_wp2
        go_ret
        exact ⟨ret_bool (by unfold knowsB allB; rw [allTo_false k2 hlt2 hq, Bool.and_false]; rfl), hbw.trans (hbel3.mono hbw.size)⟩
       | true =>
        go_wp2
        go_roundw
        case rel => exact ⟨k2 + 1, _, rfl, by omega, by go_num, allTo_succ hall2 hq, hbel3⟩
        case measure => simp [intOf]; omega
     · have hkk : k2 = y.opens.length := by omega
       have HA2 : Hid (allTo y.opens.length (fun i => hasB x.valves (gs y.opens i)) = true) := by rw [← hkk]; exact hall2
       clear hall2 hkk
       go_wp2
       go_loopw [7] (fun i wv => ∃ (k : Nat) (w4 : World), w4 = wv ∧ k ≤ y.shuts.length ∧ i = .int .i64 k ∧ allTo k (fun i => hasB x.valves (gs y.shuts i)) = true ∧ Below w2.heap.size w2 w4) (fun i _ => y.shuts.length - (intOf i).toNat)
       case atStart => exact ⟨0, _, rfl, Nat.zero_le _, rfl, rfl, Below.refl _ _⟩
       case round =>
        obtain ⟨k4, w4, rfl, hk4, rfl, hall4, hbel4⟩ := hrel
        have hbw4 := hbw2.trans (hbel4.mono hbw2.size)
        have i4 := i2.later hbel4
        have o4 := o2.later hbel4
        have y5 := o4.cell 5 rfl
        by_cases hlt4 : k4 < y.shuts.length
        · obtain ⟨b, o, ha, hb, hc⟩ := (hy.later hbw4).shuts.at hlt4
          subst ha
          have r2 := cell_regrown (i4.cell 2 rfl)
          have s4 := cell_regrown y5
          have rc := cell_regrown hc
          have hcall := fun d os => Calls.regrown_of (w := w4) ((l1Has_any av cv x.valves (gs y.shuts k4) (grow (redrawn w4 d) os) (hx.later (hbw4.trans ((below_regrown w4 d os).mono hbw4.size))).valves fx.valves.1).mono (fun _ _ h => ⟨h.1, h.2 ▸ Below.refl _ _⟩))
          have hlt3 : (k4 : Int) < y.shuts.length := by omega
          clear hc i4 o4
          go_wp2
          refine wp_region_quiet_below (by kernel_rfl) (by kernel_rfl) ?_
          repeat (quiet_step (exact hcall _ _))
          refine wpQuiet_nil ?_
          intro w3 hw'
          obtain ⟨⟨dq, osq⟩, hw''⟩ := hw'
          have hbel3 := hbel4.trans ((hw'' ▸ below_regrown w4 dq osq).mono hbel4.size)
          clear hw'' hcall r2 rc s4
          cases hq : hasB x.valves (gs y.shuts k4) with
          | false =>
           go_wp2
           go_ret
           exact ⟨ret_bool (by unfold knowsB; rw [show allB y.shuts x.valves = false from allTo_false k4 hlt4 hq, Bool.and_false]), hbw2.trans (hbel3.mono hbw2.size)⟩
          | true =>
           go_wp2
           go_roundw
           case rel => exact ⟨k4 + 1, _, rfl, by omega, by go_num, allTo_succ hall4 hq, hbel3⟩
           case measure => simp [intOf]; omega
        · have hkk : k4 = y.shuts.length := by omega
          subst hkk
          go_wp2
          go_ret
          exact ⟨ret_bool (by unfold knowsB; rw [HA1.out, show allB y.opens x.valves = true from HA2.out, show allB y.shuts x.valves = true from hall4]; rfl), hbw4⟩

end Go.Proofs.YtfmhkicncgccjaaGreat

