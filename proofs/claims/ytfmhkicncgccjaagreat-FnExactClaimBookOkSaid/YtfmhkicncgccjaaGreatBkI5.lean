/- What the program's spotAt, allIn, knows answer. -/
import Derived.Test.YtfmhkicncgccjaaGreatBkI4
import Derived.Test.YtfmhkicncgccjaaGreatBkS5
namespace Go.Proofs.YtfmhkicncgccjaaGreat
open Go.RowKit Go.Sort
set_option linter.unusedSimpArgs false
set_option linter.unusedVariables false

set_option maxHeartbeats 400000 in
theorem spotAt1_any (s : Spot) (m : Option Addr) (c : Nat) (bb : Nat) (name : ByteArray) (w : World) (hc : w.cell? ⟨bb, 0, none⟩ = some (.string name)) (hbb : bb < w.heap.size) :
    Calls Tryz.prog 145 #[spotV s m c, .pointer (some ⟨bb, 0, none⟩)] w fun e w' => e = .returned (.bool (eqS s.name name)) ∧ Below w.heap.size w w' := by
  unfold spotV
  have hne : bb ≠ w.heap.size := by omega
  go_enter Tryz.func145, Tryz.ntmps145
  go_wp2
  go_ret
  exact ⟨rfl, (Below.refl _ _).alloc (Nat.le_refl _) _⟩

set_option maxHeartbeats 1000000 in
theorem indexFunc_any (a : Option Addr) (cap : Nat) (ps : List Spot) (bb : Nat) (name : ByteArray) (w : World) (hc : w.cell? ⟨bb, 0, none⟩ = some (.string name)) (hbb : bb < w.heap.size) (hm : SpotsAt w a ps) (hl : ps.length ≤ maxLen) :
    Calls Tryz.prog 144 #[.slice a ps.length cap, .func (.func 145) #[] #[.pointer (some ⟨bb, 0, none⟩)]] w fun e w' => e = .returned (.int .i64 (spotI ps name)) ∧ Below w.heap.size w w' := by
  unfold maxLen at hl
  go_enter Tryz.func144, Tryz.ntmps144
  go_wp2
  go_loopw [5, 8] (fun _ i wr => ∃ (k : Nat), k ≤ ps.length ∧ i = .int .i64 k ∧ allTo k (fun i => !eqS (gp ps i).name name) = true ∧ Below w.heap.size w wr) (fun _ i _ => ps.length - (intOf i).toNat)
  case atStart => exact ⟨0, Nat.zero_le _, rfl, rfl, Below.refl _ _⟩
  case round wr =>
    obtain ⟨k, hk, rfl, hall, hbel⟩ := hrel
    by_cases hlt : k < ps.length
    · obtain ⟨b, o, m, c, ha, hb, hc0, hc1, hc2, hc3, hc4, -⟩ := (hm.later hbel).at hlt
      subst ha
      have hpc := cell_later hbel hc
      have hbb2 := Nat.lt_of_lt_of_le hbb hbel.size
      go_wp2_with fail
      refine (spotAt1_any (gp ps k) m c bb name _ hpc hbb2).mono ?_
      rintro e w1 ⟨rfl, hb1⟩
      have hb2 := hbel.trans (hb1.mono hbel.size)
      clear hc0 hc1 hc2 hc3 hc4
      cases hq : eqS (gp ps k).name name with
      | true =>
        go_wp2
        go_ret
        exact ⟨congrArg (fun z => Ending.returned (.int .i64 z)) (spotI_hit hlt hall hq).symm, hb2⟩
      | false =>
        go_wp2
        go_roundw
        case rel => exact ⟨k + 1, by omega, by go_num, allTo_succ hall (by simp [hq]), hb2⟩
        case measure => simp [intOf]; omega
    · go_wp2
      go_ret
      have : k = ps.length := by omega
      subst this
      exact ⟨congrArg (fun z => Ending.returned (.int .i64 z)) (spotI_none hall).symm, hbel⟩

set_option maxHeartbeats 1000000 in
theorem spotAt_any (a : Option Addr) (cap : Nat) (ps : List Spot) (name : ByteArray) (w : World) (hm : SpotsAt w a ps) (hl : ps.length ≤ maxLen) :
    Calls Tryz.prog 109 #[.slice a ps.length cap, .string name] w fun e w' => e = .returned (.int .i64 (spotI ps name)) ∧ Below w.heap.size w w' := by
  have b0 : Below w.heap.size w (w.alloc (.cells #[.string name] 9)) := (Below.refl _ _).alloc (Nat.le_refl _) _
  have i0 := Row.new w 9 [.string name]
  go_enter Tryz.func109, Tryz.ntmps109
  go_wp2_with fail
  refine (indexFunc_any a cap ps w.heap.size name _ (i0.cell 0 rfl) i0.lt (hm.later b0) hl).mono ?_
  rintro e w1 ⟨rfl, hb⟩
  go_wp2
  go_ret
  exact ⟨rfl, b0.trans (hb.mono b0.size)⟩

set_option maxHeartbeats 400000 in
theorem allIn_any (a b : Option Addr) (ca cb : Nat) (xs ys : List ByteArray) (w : World) (hx : StrsAt w a xs) (hy : StrsAt w b ys) (lx : xs.length ≤ maxLen) (ly : ys.length ≤ maxLen) :
    Calls Tryz.prog 142 #[.slice a xs.length ca, .slice b ys.length cb] w fun e w' => e = .returned (.bool (allB xs ys)) ∧ w = w' := by
  have lx' := lx
  unfold maxLen at lx'
  go_enter Tryz.func142, Tryz.ntmps142
  go_wp2
  go_loop [6, 9] (fun _ i => ∃ (k : Nat), k ≤ xs.length ∧ i = .int .i64 k ∧ allTo k (fun i => hasB ys (gs xs i)) = true) (fun _ i => xs.length - (intOf i).toNat)
  case atStart => exact ⟨0, Nat.zero_le _, rfl, rfl⟩
  case round =>
    obtain ⟨k, hk, rfl, hall⟩ := hrel
    by_cases hlt : k < xs.length
    · obtain ⟨b1, o1, ha, hb, hc⟩ := hx.at hlt
      subst ha
      cases hq : hasB ys (gs xs k) with
      | true =>
        go_wp2_with (go_at_call 28; refine (contains_any b cb ys (gs xs k) _ hy ly).mono ?_; rintro e w1 ⟨rfl, rfl⟩; rw [hq])
        go_round
        case rel => exact ⟨k + 1, by omega, by go_num, allTo_succ hall hq⟩
        case measure => simp [intOf]; omega
      | false =>
        go_wp2_with (go_at_call 28; refine (contains_any b cb ys (gs xs k) _ hy ly).mono ?_; rintro e w1 ⟨rfl, rfl⟩; rw [hq])
        go_ret
        exact ⟨ret_bool (allTo_false k hlt hq).symm, rfl⟩
    · go_wp2
      go_ret
      have : k = xs.length := by omega
      subst this
      exact ⟨ret_bool hall.symm, rfl⟩

set_option maxRecDepth 100000 in
set_option maxHeartbeats 2000000 in
theorem knows_any (x : Book) (af ap av aq : Option Addr) (cf cp cv cq : Nat) (y : Want) (a2 a3 a4 a5 : Option Addr) (c2 c3 c4 c5 : Nat) (w : World) (hx : BookIn w x af ap av aq) (hy : WantIn w y a2 a3 a4 a5) (fx : BookFit x) (fy : WantFit y) :
    Calls Tryz.prog 102 #[bookV x af ap av aq cf cp cv cq, wantW y a2 a3 a4 a5 c2 c3 c4 c5] w fun e w' => e = .returned (.bool (knowsB x y)) ∧ Below w.heap.size w w' := by
  have hl3 := fy.usesLen
  unfold maxLen at hl3
  unfold bookV wantW
  have b0 : Below w.heap.size w ((w.alloc (.cells (bookL x af ap av aq cf cp cv cq).toArray 28)).alloc (.cells (wantL y a2 a3 a4 a5 c2 c3 c4 c5).toArray 38)) :=
    ((Below.refl _ _).alloc (Nat.le_refl _) _).alloc (by simp) _
  have i0 : Row ((w.alloc (.cells (bookL x af ap av aq cf cp cv cq).toArray 28)).alloc (.cells (wantL y a2 a3 a4 a5 c2 c3 c4 c5).toArray 38)) w.heap.size 28 (bookL x af ap av aq cf cp cv cq) := (Row.new w 28 (bookL x af ap av aq cf cp cv cq)).alloc _
  have o0 : Row ((w.alloc (.cells (bookL x af ap av aq cf cp cv cq).toArray 28)).alloc (.cells (wantL y a2 a3 a4 a5 c2 c3 c4 c5).toArray 38)) (w.heap.size + 1) 38 (wantL y a2 a3 a4 a5 c2 c3 c4 c5) := by
    have := Row.new (w.alloc (.cells (bookL x af ap av aq cf cp cv cq).toArray 28)) 38 (wantL y a2 a3 a4 a5 c2 c3 c4 c5)
    simpa using this
  go_enter Tryz.func102, Tryz.ntmps102
  go_wp2
  go_loopw [6, 10] (fun _ i wr => ∃ (k : Nat), k ≤ y.uses.length ∧ i = .int .i64 k ∧ allTo k (fun i => decide (0 ≤ spotI x.spots (gu y.uses i).name)) = true ∧ Below ((w.alloc (.cells (bookL x af ap av aq cf cp cv cq).toArray 28)).alloc (.cells (wantL y a2 a3 a4 a5 c2 c3 c4 c5).toArray 38)).heap.size ((w.alloc (.cells (bookL x af ap av aq cf cp cv cq).toArray 28)).alloc (.cells (wantL y a2 a3 a4 a5 c2 c3 c4 c5).toArray 38)) wr) (fun _ i _ => y.uses.length - (intOf i).toNat)
  case atStart => exact ⟨0, Nat.zero_le _, rfl, rfl, Below.refl _ _⟩
  case round wr =>
    obtain ⟨k, hk, rfl, hall, hbel⟩ := hrel
    have hbw := b0.trans (hbel.mono b0.size)
    have i1 := i0.later hbel
    have o1 := o0.later hbel
    clear i0 o0
    by_cases hlt : k < y.uses.length
    · obtain ⟨b, o, ha, hb, hc0, hc1, hc2⟩ := (hy.later hbw).uses.at hlt
      have y1 := i1.cell 1 rfl
      have hzi := i1.lt
      have hba : Below wr.heap.size wr (wr.alloc (.cells #[.string (gu y.uses k).name, .int .i64 (gu y.uses k).role, .int .i64 (gu y.uses k).amount] 101)) := (Below.refl _ _).alloc (Nat.le_refl _) _
      have hbwa := hbw.trans (hba.mono hbw.size)
      subst ha
      go_wp2_with fail
      refine (spotAt_any ap cp x.spots (gu y.uses k).name _ (hx.later hbwa).spots fx.spots.len).mono ?_
      rintro e w2 ⟨rfl, hb2⟩
      have hbel1 := hbel.trans ((hba.trans (hb2.mono hba.size)).mono hbel.size)
      clear hc0 hc1 hc2 i1 o1 hba hbwa hb2
      generalize hsp : spotI x.spots (gu y.uses k).name = sp
      have HSP : Hid (spotI x.spots (gu y.uses k).name = sp) := hsp
      clear hsp
      by_cases hq : sp < 0
      · go_wp2
        go_ret
        exact ⟨ret_bool (by unfold knowsB; rw [allTo_false k hlt (by rw [HSP.out]; exact decide_eq_false (by omega))]; rfl), b0.trans (hbel1.mono b0.size)⟩
      · go_wp2
        go_roundw
        case rel => exact ⟨k + 1, by omega, by go_num, allTo_succ hall (by rw [HSP.out]; exact decide_eq_true (by omega)), hbel1⟩
        case measure => simp [intOf]; omega
    · have hkk : k = y.uses.length := by omega
      have HA1 : Hid (allTo y.uses.length (fun i => decide (0 ≤ spotI x.spots (gu y.uses i).name)) = true) := by rw [← hkk]; exact hall
      clear hall hkk
      have y2 := i1.cell 2 rfl
      have z4 := o1.cell 4 rfl
      have z5 := o1.cell 5 rfl
      go_wp2_with fail
      refine (allIn_any a4 av c4 cv y.opens x.valves _ (hy.later hbw).opens (hx.later hbw).valves fy.opens.1 fx.valves.1).mono ?_
      rintro e w2 ⟨rfl, rfl⟩
      cases hq : allB y.opens x.valves with
      | false =>
        go_wp2
        go_ret
        exact ⟨ret_bool (by unfold knowsB; rw [hq, Bool.and_false]; rfl), hbw⟩
      | true =>
      go_wp2_with fail
      refine (allIn_any a5 av c5 cv y.shuts x.valves _ (hy.later hbw).shuts (hx.later hbw).valves fy.shuts.1 fx.valves.1).mono ?_
      rintro e w2 ⟨rfl, rfl⟩
      go_wp2
      go_ret
      exact ⟨ret_bool (by unfold knowsB; rw [HA1.out, hq]; simp), hbw⟩

end Go.Proofs.YtfmhkicncgccjaaGreat
