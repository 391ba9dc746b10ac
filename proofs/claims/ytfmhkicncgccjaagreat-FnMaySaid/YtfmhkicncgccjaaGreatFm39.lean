/- Joined: BkI5, BkI6, BkI7. -/
import Derived.Test.YtfmhkicncgccjaaGreatFm38
import Derived.Test.YtfmhkicncgccjaaGreatFm16
import Derived.Test.YtfmhkicncgccjaaGreatFm17
/- What the program's spotAt, allIn, knows answer. -/
namespace Go.Proofs.YtfmhkicncgccjaaGreat
open Go.RowKit Go.Sort
set_option linter.unusedSimpArgs false
set_option linter.unusedVariables false

set_option maxHeartbeats 400000 in
theorem spotAt1_any (s : Spot) (m : Option Addr) (c : Nat) (bb : Nat) (name : ByteArray) (w : World) (hc : w.cell? ⟨bb, 0, none⟩ = some (.string name)) (hbb : bb < w.heap.size) :
 Calls Tryz.prog 145 #[spotV s m c, .pointer (some ⟨bb, 0, none⟩)] w fun e w' => e = .returned (.bool (eqS s.name name)) ∧ Below w.heap.size w w' := by
 unfold spotV
 have hne : bb ≠ w.heap.size := by omega
 go_enter Tryz.func145, Tryz.ntmps145
 go_wp2
 go_ret
 exact ⟨rfl, (Below.refl _ _).alloc (Nat.le_refl _) _⟩

set_option maxHeartbeats 1000000 in
theorem indexFunc_any (a : Option Addr) (cap : Nat) (ps : List Spot) (bb : Nat) (name : ByteArray) (w : World) (hc : w.cell? ⟨bb, 0, none⟩ = some (.string name)) (hbb : bb < w.heap.size) (hm : SpotsAt w a ps) (hl : ps.length ≤ maxLen) :
 Calls Tryz.prog 144 #[.slice a ps.length cap, .func (.func 145) #[] #[.pointer (some ⟨bb, 0, none⟩)]] w fun e w' => e = .returned (.int .i64 (spotI ps name)) ∧ Below w.heap.size w w' := by
 unfold maxLen at hl
 go_enter Tryz.func144, Tryz.ntmps144
 go_wp2
 go_loopw [5, 8] (fun _ i wr => ∃ (k : Nat), k ≤ ps.length ∧ i = .int .i64 k ∧ allTo k (fun i => !eqS (gp ps i).name name) = true ∧ Below w.heap.size w wr) (fun _ i _ => ps.length - (intOf i).toNat)
 case atStart => exact ⟨0, Nat.zero_le _, rfl, rfl, Below.refl _ _⟩
 case round wr =>
  obtain ⟨k, hk, rfl, hall, hbel⟩ := hrel
  by_cases hlt : k < ps.length
  · obtain ⟨b, o, m, c, ha, hb, hc0, hc1, hc2, hc3, hc4, -⟩ := (hm.later hbel).at hlt
    subst ha
    have hpc := cell_later hbel hc
    have hbb2 := Nat.lt_of_lt_of_le hbb hbel.size
    go_wp2_with fail
    refine (spotAt1_any (gp ps k) m c bb name _ hpc hbb2).mono ?_
    rintro e w1 ⟨rfl, hb1⟩
    have hb2 := hbel.trans (hb1.mono hbel.size)
    clear hc0 hc1 hc2 hc3 hc4
    cases hq : eqS (gp ps k).name name with
    | true =>
     go_wp2
     go_ret
     exact ⟨congrArg (fun z => Ending.returned (.int .i64 z)) (spotI_hit hlt hall hq).symm, hb2⟩
    | false =>
     go_wp2
     go_roundw
     case rel => exact ⟨k + 1, by omega, by go_num, allTo_succ hall (by simp [hq]), hb2⟩
     case measure => simp [intOf]; omega
  · go_wp2
    go_ret
    have : k = ps.length := by omega
    subst this
    exact ⟨congrArg (fun z => Ending.returned (.int .i64 z)) (spotI_none hall).symm, hbel⟩

set_option maxHeartbeats 1000000 in
theorem spotAt_any (a : Option Addr) (cap : Nat) (ps : List Spot) (name : ByteArray) (w : World) (hm : SpotsAt w a ps) (hl : ps.length ≤ maxLen) :
 Calls Tryz.prog 109 #[.slice a ps.length cap, .string name] w fun e w' => e = .returned (.int .i64 (spotI ps name)) ∧ Below w.heap.size w w' := by
 have b0 : Below w.heap.size w (w.alloc (.cells #[.string name] 9)) := (Below.refl _ _).alloc (Nat.le_refl _) _
 have i0 := Row.new w 9 [.string name]
 go_enter Tryz.func109, Tryz.ntmps109
 go_wp2_with fail
 refine (indexFunc_any a cap ps w.heap.size name _ (i0.cell 0 rfl) i0.lt (hm.later b0) hl).mono ?_
 rintro e w1 ⟨rfl, hb⟩
 go_wp2
 go_ret
 exact ⟨rfl, b0.trans (hb.mono b0.size)⟩

set_option maxHeartbeats 400000 in
theorem allIn_any (a b : Option Addr) (ca cb : Nat) (xs ys : List ByteArray) (w : World) (hx : StrsAt w a xs) (hy : StrsAt w b ys) (lx : xs.length ≤ maxLen) (ly : ys.length ≤ maxLen) :
 Calls Tryz.prog 142 #[.slice a xs.length ca, .slice b ys.length cb] w fun e w' => e = .returned (.bool (allB xs ys)) ∧ w = w' := by
 have lx' := lx
 unfold maxLen at lx'
 go_enter Tryz.func142, Tryz.ntmps142
 go_wp2
 go_loop [6, 9] (fun _ i => ∃ (k : Nat), k ≤ xs.length ∧ i = .int .i64 k ∧ allTo k (fun i => hasB ys (gs xs i)) = true) (fun _ i => xs.length - (intOf i).toNat)
 case atStart => exact ⟨0, Nat.zero_le _, rfl, rfl⟩
 case round =>
  obtain ⟨k, hk, rfl, hall⟩ := hrel
  by_cases hlt : k < xs.length
  · obtain ⟨b1, o1, ha, hb, hc⟩ := hx.at hlt
    subst ha
    cases hq : hasB ys (gs xs k) with
    | true =>
     go_wp2_with (go_at_call 28; refine (contains_any b cb ys (gs xs k) _ hy ly).mono ?_; rintro e w1 ⟨rfl, rfl⟩; rw [hq])
     go_round
     case rel => exact ⟨k + 1, by omega, by go_num, allTo_succ hall hq⟩
     case measure => simp [intOf]; omega
    | false =>
     go_wp2_with (go_at_call 28; refine (contains_any b cb ys (gs xs k) _ hy ly).mono ?_; rintro e w1 ⟨rfl, rfl⟩; rw [hq])
     go_ret
     exact ⟨ret_bool (allTo_false k hlt hq).symm, rfl⟩
  · go_wp2
    go_ret
    have : k = xs.length := by omega
    subst this
    exact ⟨ret_bool hall.symm, rfl⟩

set_option maxRecDepth 100000 in
set_option maxHeartbeats 2000000 in
theorem knows_any (x : Book) (af ap av aq : Option Addr) (cf cp cv cq : Nat) (y : Want) (a2 a3 a4 a5 : Option Addr) (c2 c3 c4 c5 : Nat) (w : World) (hx : BookIn w x af ap av aq) (hy : WantIn w y a2 a3 a4 a5) (fx : BookFit x) (fy : WantFit y) :
 Calls Tryz.prog 102 #[bookV x af ap av aq cf cp cv cq, wantW y a2 a3 a4 a5 c2 c3 c4 c5] w fun e w' => e = .returned (.bool (knowsB x y)) ∧ Below w.heap.size w w' := by
 have hl3 := fy.usesLen
 unfold maxLen at hl3
 unfold bookV wantW
 have b0 : Below w.heap.size w ((w.alloc (.cells (bookL x af ap av aq cf cp cv cq).toArray 28)).alloc (.cells (wantL y a2 a3 a4 a5 c2 c3 c4 c5).toArray 38)) :=
  ((Below.refl _ _).alloc (Nat.le_refl _) _).alloc (by simp) _
 have i0 : Row ((w.alloc (.cells (bookL x af ap av aq cf cp cv cq).toArray 28)).alloc (.cells (wantL y a2 a3 a4 a5 c2 c3 c4 c5).toArray 38)) w.heap.size 28 (bookL x af ap av aq cf cp cv cq) := (Row.new w 28 (bookL x af ap av aq cf cp cv cq)).alloc _
 have o0 : Row ((w.alloc (.cells (bookL x af ap av aq cf cp cv cq).toArray 28)).alloc (.cells (wantL y a2 a3 a4 a5 c2 c3 c4 c5).toArray 38)) (w.heap.size + 1) 38 (wantL y a2 a3 a4 a5 c2 c3 c4 c5) := by
  have := Row.new (w.alloc (.cells (bookL x af ap av aq cf cp cv cq).toArray 28)) 38 (wantL y a2 a3 a4 a5 c2 c3 c4 c5)
  simpa using this
 go_enter Tryz.func102, Tryz.ntmps102
 go_wp2
 go_loopw [6, 10] (fun _ i wr => ∃ (k : Nat), k ≤ y.uses.length ∧ i = .int .i64 k ∧ allTo k (fun i => decide (0 ≤ spotI x.spots (gu y.uses i).name)) = true ∧ Below ((w.alloc (.cells (bookL x af ap av aq cf cp cv cq).toArray 28)).alloc (.cells (wantL y a2 a3 a4 a5 c2 c3 c4 c5).toArray 38)).heap.size ((w.alloc (.cells (bookL x af ap av aq cf cp cv cq).toArray 28)).alloc (.cells (wantL y a2 a3 a4 a5 c2 c3 c4 c5).toArray 38)) wr) (fun _ i _ => y.uses.length - (intOf i).toNat)
 case atStart => exact ⟨0, Nat.zero_le _, rfl, rfl, Below.refl _ _⟩
 case round wr =>
  obtain ⟨k, hk, rfl, hall, hbel⟩ := hrel
  have hbw := b0.trans (hbel.mono b0.size)
  have i1 := i0.later hbel
  have o1 := o0.later hbel
  clear i0 o0
  by_cases hlt : k < y.uses.length
  · obtain ⟨b, o, ha, hb, hc0, hc1, hc2⟩ := (hy.later hbw).uses.at hlt
    have y1 := i1.cell 1 rfl
    have hzi := i1.lt
    have hba : Below wr.heap.size wr (wr.alloc (.cells #[.string (gu y.uses k).name, .int .i64 (gu y.uses k).role, .int .i64 (gu y.uses k).amount] 101)) := (Below.refl _ _).alloc (Nat.le_refl _) _
    have hbwa := hbw.trans (hba.mono hbw.size)
    subst ha
    go_wp2_with fail
    refine (spotAt_any ap cp x.spots (gu y.uses k).name _ (hx.later hbwa).spots fx.spots.len).mono ?_
    rintro e w2 ⟨rfl, hb2⟩
    have hbel1 := hbel.trans ((hba.trans (hb2.mono hba.size)).mono hbel.size)
    clear hc0 hc1 hc2 i1 o1 hba hbwa hb2
    generalize hsp : spotI x.spots (gu y.uses k).name = sp
    have HSP : Hid (spotI x.spots (gu y.uses k).name = sp) := hsp
    clear hsp
    by_cases hq : sp < 0
    · go_wp2
      go_ret
      exact ⟨ret_bool (by unfold knowsB; rw [allTo_false k hlt (by rw [HSP.out]; exact decide_eq_false (by omega))]; rfl), b0.trans (hbel1.mono b0.size)⟩
    · go_wp2
      go_roundw
      case rel => exact ⟨k + 1, by omega, by go_num, allTo_succ hall (by rw [HSP.out]; exact decide_eq_true (by omega)), hbel1⟩
      case measure => simp [intOf]; omega
  · have hkk : k = y.uses.length := by omega
    have HA1 : Hid (allTo y.uses.length (fun i => decide (0 ≤ spotI x.spots (gu y.uses i).name)) = true) := by rw [← hkk]; exact hall
    clear hall hkk
    have y2 := i1.cell 2 rfl
    have z4 := o1.cell 4 rfl
    have z5 := o1.cell 5 rfl
    go_wp2_with fail
    refine (allIn_any a4 av c4 cv y.opens x.valves _ (hy.later hbw).opens (hx.later hbw).valves fy.opens.1 fx.valves.1).mono ?_
    rintro e w2 ⟨rfl, rfl⟩
    cases hq : allB y.opens x.valves with
    | false =>
     go_wp2
     go_ret
     exact ⟨ret_bool (by unfold knowsB; rw [hq, Bool.and_false]; rfl), hbw⟩
    | true =>
    go_wp2_with fail
    refine (allIn_any a5 av c5 cv y.shuts x.valves _ (hy.later hbw).shuts (hx.later hbw).valves fy.shuts.1 fx.valves.1).mono ?_
    rintro e w2 ⟨rfl, rfl⟩
    go_wp2
    go_ret
    exact ⟨ret_bool (by unfold knowsB; rw [HA1.out, hq]; simp), hbw⟩

end Go.Proofs.YtfmhkicncgccjaaGreat

/- What the program's partsOk answers. -/
namespace Go.Proofs.YtfmhkicncgccjaaGreat
open Go.RowKit Go.Sort
set_option linter.unusedSimpArgs false
set_option linter.unusedVariables false

set_option maxHeartbeats 400000 in
theorem partsOk1_any (p q : Part) (a2 a3 a4 a5 : Option Addr) (c2 c3 c4 c5 : Nat) (e2 e3 e4 e5 : Option Addr) (d2 d3 d4 d5 : Nat) (w : World) :
 Calls Tryz.prog 104 #[partV p a2 a3 a4 a5 c2 c3 c4 c5, partV q e2 e3 e4 e5 d2 d3 d4 d5] w fun e w' => e = .returned (.bool (decide (p.want.number < q.want.number))) ∧ Below w.heap.size w w' := by
 unfold partV
 go_enter Tryz.func104, Tryz.ntmps104
 go_wp2
 go_ret
 exact ⟨rfl, ((Below.refl _ _).alloc (Nat.le_refl _) _).alloc (by simp) _⟩

def ascPB (ps : List Part) : Bool := allTo ps.length (fun k => k == 0 || decide ((gq ps (k - 1)).want.number < (gq ps k).want.number))

set_option maxRecDepth 100000 in
set_option maxHeartbeats 1000000 in
theorem ascendingP_any (a : Option Addr) (cap : Nat) (us : List Part) (w : World) (hm : PartsAt w a us) (hl : us.length ≤ maxLen) :
 Calls Tryz.prog 103 #[.slice a us.length cap, .func (.func 104) #[] #[]] w fun e w' => e = .returned (.bool (ascPB us)) ∧ Below w.heap.size w w' := by
 unfold maxLen at hl
 go_enter Tryz.func103, Tryz.ntmps103
 go_wp2
 go_loopw [5] (fun i wr => ∃ (k : Nat), (k ≤ us.length ∨ k = 1) ∧ 1 ≤ k ∧ i = .int .i64 k ∧ allTo k (fun k => k == 0 || decide ((gq us (k - 1)).want.number < (gq us k).want.number)) = true ∧ Below w.heap.size w wr) (fun i _ => us.length - (intOf i).toNat)
 case atStart => exact ⟨1, Or.inr rfl, Nat.le_refl _, rfl, rfl, Below.refl _ _⟩
 case round wr =>
  obtain ⟨k, hk, hk1, rfl, hall, hbel⟩ := hrel
  by_cases hlt : k < us.length
  · obtain ⟨j, rfl⟩ : ∃ j, k = j + 1 := ⟨k - 1, by omega⟩
    obtain ⟨b, o, a2, a3, a4, a5, c2, c3, c4, c5, ha, hb, hc0, hc1, hc2, hc3, hc4, hc5, hc6, -⟩ := (hm.later hbel).at hlt
    obtain ⟨b', o', x2, x3, x4, x5, g2, g3, g4, g5, ha', hb', hd0, hd1, hd2, hd3, hd4, hd5, hd6, -⟩ := (hm.later hbel).at (k := j) (by omega)
    subst ha
    simp only [Option.some.injEq, Addr.mk.injEq, and_true] at ha'
    obtain ⟨rfl, rfl⟩ := ha'
    have r0 := cell_regrown hc0
    have r1 := cell_regrown hc1
    have r2 := cell_regrown hc2
    have r3 := cell_regrown hc3
    have r4 := cell_regrown hc4
    have r5 := cell_regrown hc5
    have r6 := cell_regrown hc6
    have s0 := cell_regrown hd0
    have s1 := cell_regrown hd1
    have s2 := cell_regrown hd2
    have s3 := cell_regrown hd3
    have s4 := cell_regrown hd4
    have s5 := cell_regrown hd5
    have s6 := cell_regrown hd6
    have hcall := fun d os => Calls.regrown_of (w := wr) (partsOk1_any (gq us j) (gq us (j + 1)) x2 x3 x4 x5 g2 g3 g4 g5 a2 a3 a4 a5 c2 c3 c4 c5 (grow (redrawn wr d) os))
    unfold partV at hcall
    have hwrap : IntKind.i64.wrap (j : Int) = j := by rw [IntKind.wrap_i64]; omega
    have hj1 : (j : Int) < us.length := by omega
    have hj2 : (j : Int) + 1 < us.length := by omega
    have hj3 : (0 : Int) ≤ (j : Int) + 1 := by omega
    have hj4 : ((j : Int) + 1).toNat = j + 1 := by omega
    clear hc0 hc1 hc2 hc3 hc4 hc5 hc6 hd0 hd1 hd2 hd3 hd4 hd5 hd6
    go_wp2
    refine wp_region_quiet_below (by kernel_rfl) (by kernel_rfl) ?_
    repeat (first | go_big_quiet_step (with_reducible exact hcall _ _) | quiet_step (with_reducible exact hcall _ _))
    refine wpQuiet_nil ?_
    intro w1 hw'
    obtain ⟨⟨dq, osq⟩, hw''⟩ := hw'
    have hbel1 : Below w.heap.size w w1 := hbel.trans ((hw'' ▸ below_regrown wr dq osq).mono hbel.size)
    clear hw'' hcall r0 r1 r2 r3 r4 r5 r6 s0 s1 s2 s3 s4 s5 s6
    cases hq : decide ((gq us j).want.number < (gq us (j + 1)).want.number) with
    | true =>
     go_wp2
     go_roundw
     case rel => exact ⟨j + 1 + 1, by omega, by omega, by go_num, allTo_succ hall (by rw [Nat.add_sub_cancel, hq]; simp), hbel1⟩
     case measure => simp [intOf]; omega
    | false =>
     go_wp2
     go_ret
     exact ⟨ret_bool (allTo_false (j + 1) hlt (by rw [Nat.add_sub_cancel, hq]; simp)).symm, hbel1⟩
  · go_wp2
    go_ret
    refine ⟨ret_bool ?_, hbel⟩
    refine (allTo_iff.2 fun i hi => ?_).symm
    exact allTo_iff.1 hall i (by omega)

/-- A part by itself, as the program's partsOk asks. -/
def partAtI (x : Book) (p : Part) : Bool := decide (p.want.number ≤ x.seen) && wantB p.want && knowsB x p.want

set_option maxRecDepth 100000 in
set_option maxHeartbeats 2000000 in
theorem partsOk_any (x : Book) (af ap av aq : Option Addr) (cf cp cv cq : Nat) (w : World) (hx : BookIn w x af ap av aq) (fx : BookFit x) :
 Calls Tryz.prog 55 #[bookV x af ap av aq cf cp cv cq] w fun e w' => e = .returned (.bool (decide ((x.parts.length : Int) ≤ 6) && allTo x.parts.length (fun k => partAtI x (gq x.parts k)) && ascPB x.parts)) ∧ Below w.heap.size w w' := by
 have hl := fx.parts.len
 unfold maxLen at hl
 unfold bookV
 by_cases hmany : 6 < (x.parts.length : Int)
 · go_enter Tryz.func55, Tryz.ntmps55
   go_wp2
   go_ret
   exact ⟨ret_bool (by rw [decide_eq_false (by omega)]; rfl), (Below.refl _ _).alloc (Nat.le_refl _) _⟩
 · go_enter Tryz.func55, Tryz.ntmps55
   go_wp2
   go_loopw [4, 12] (fun _ i wr => ∃ (k : Nat), k ≤ x.parts.length ∧ i = .int .i64 k ∧ allTo k (fun k => partAtI x (gq x.parts k)) = true ∧ Below (w.alloc (.cells (bookL x af ap av aq cf cp cv cq).toArray 28)).heap.size (w.alloc (.cells (bookL x af ap av aq cf cp cv cq).toArray 28)) wr) (fun _ i _ => x.parts.length - (intOf i).toNat)
   case atStart => exact ⟨0, Nat.zero_le _, rfl, rfl, Below.refl _ _⟩
   case round wr =>
    obtain ⟨k, hk, rfl, hall, hbel⟩ := hrel
    have hbw := below_over hbel
    have bk := bookRow hbel
    by_cases hlt : k < x.parts.length
    · obtain ⟨b, o, a2, a3, a4, a5, c2, c3, c4, c5, ha, hb, hc0, hc1, hc2, hc3, hc4, hc5, hc6, hst⟩ := (hx.later hbw).parts.at hlt
      have hfp := fx.parts.wants _ (gq_mem hlt)
      have y4 := bk.cell 4 rfl
      have hz := bk.lt
      have hba : Below wr.heap.size wr (wr.alloc (.cells #[.int .i64 (gq x.parts k).want.number, .int .i64 (gq x.parts k).want.kind, .slice a2 (gq x.parts k).want.stuffs.length c2, .slice a3 (gq x.parts k).want.uses.length c3, .slice a4 (gq x.parts k).want.opens.length c4, .slice a5 (gq x.parts k).want.shuts.length c5, .bool (gq x.parts k).stopped] 61)) := (Below.refl _ _).alloc (Nat.le_refl _) _
      have frow := Row.new wr 61 (partL (gq x.parts k) a2 a3 a4 a5 c2 c3 c4 c5)
      have hbela := hbel.trans (hba.mono hbel.size)
      have bka := bk.later hba
      subst ha
      by_cases h1 : (gq x.parts k).want.number ≤ x.seen
      case neg =>
       have h1' : x.seen < (gq x.parts k).want.number := by omega
       clear h1
       go_wp2
       go_ret
       exact ⟨ret_bool (by rw [allTo_false k hlt (by unfold partAtI; rw [decide_eq_false (by omega)]; rfl)]; simp), below_over hbela⟩
      have h1' : ¬ x.seen < (gq x.parts k).want.number := by omega
      have HD : Hid (decide ((gq x.parts k).want.number ≤ x.seen) = true) := decide_eq_true h1
      go_wp2_with fail
      refine (implWantOk_any (gq x.parts k).want a2 a3 a4 a5 c2 c3 c4 c5 _ (hst.later hba) hfp).mono ?_
      rintro e w1 ⟨rfl, hb1⟩
      have row1 := frow.later hb1
      have bk1 := bka.later hb1
      have hbel1 := hbela.trans (hb1.mono hbela.size)
      have hst1 := (hst.later hba).later hb1
      clear hc0 hc1 hc2 hc3 hc4 hc5 hc6 hba frow hbela bka hb1 y4
      cases hq1 : wantB (gq x.parts k).want with
      | false =>
       go_wp2
       go_ret
       exact ⟨ret_bool (by rw [allTo_false k hlt (by simp [partAtI, hq1])]; simp), below_over hbel1⟩
      | true =>
      have f0 := row1.cell 0 rfl
      have f1 := row1.cell 1 rfl
      have f2 := row1.cell 2 rfl
      have f3 := row1.cell 3 rfl
      have f4 := row1.cell 4 rfl
      have f5 := row1.cell 5 rfl
      have y0 := bk1.cell 0 rfl
      have y1 := bk1.cell 1 rfl
      have y2 := bk1.cell 2 rfl
      have y3 := bk1.cell 3 rfl
      have y4 := bk1.cell 4 rfl
      go_wp2_with fail
      refine (knows_any x af ap av (some ⟨b, o, none⟩) cf cp cv cq (gq x.parts k).want a2 a3 a4 a5 c2 c3 c4 c5 _ (hx.later (below_over hbel1)) hst1 fx hfp).mono ?_
      rintro e w2 ⟨rfl, hb2⟩
      have hbel2 := hbel1.trans (hb2.mono hbel1.size)
      clear f0 f1 f2 f3 f4 f5 y0 y1 y2 y3 y4 row1 bk1 hb2 hst1
      cases hq2 : knowsB x (gq x.parts k).want with
      | false =>
       go_wp2
       go_ret
       exact ⟨ret_bool (by rw [allTo_false k hlt (by simp [partAtI, hq2])]; simp), below_over hbel2⟩
      | true =>
       go_wp2
       go_roundw
       case rel => exact ⟨k + 1, by omega, by go_num, allTo_succ hall (by unfold partAtI; rw [HD.out, hq1, hq2]; rfl), hbel2⟩
       case measure => simp [intOf]; omega
    · have : k = x.parts.length := by omega
      subst this
      have y3 := bk.cell 3 rfl
      go_wp2_with fail
      refine (ascendingP_any aq cq x.parts _ (hx.later hbw).parts fx.parts.len).mono ?_
      rintro e w1 ⟨rfl, hb1⟩
      go_wp2
      go_ret
      exact ⟨ret_bool (by rw [hall, decide_eq_true (by omega)]; rfl), hbw.trans (hb1.mono hbw.size)⟩

end Go.Proofs.YtfmhkicncgccjaaGreat

/- What the program's mayFits and placeOk answer. -/
namespace Go.Proofs.YtfmhkicncgccjaaGreat
open Go.RowKit Go.Sort
set_option linter.unusedSimpArgs false
set_option linter.unusedVariables false

def fitsB (may stuffs : List ByteArray) (role : Int) : Bool := if role == 1 then allB may stuffs else if role == 2 then allB stuffs may else allB may stuffs && allB stuffs may

set_option maxHeartbeats 1000000 in
theorem mayFits_any (a b : Option Addr) (ca cb : Nat) (may stuffs : List ByteArray) (role : Int) (w : World) (hx : StrsAt w a may) (hy : StrsAt w b stuffs) (lx : may.length ≤ maxLen) (ly : stuffs.length ≤ maxLen) :
 Calls Tryz.prog 143 #[.slice a may.length ca, .slice b stuffs.length cb, .int .i64 role] w fun e w' => e = .returned (.bool (fitsB may stuffs role)) ∧ w = w' := by
 by_cases h1 : role = 1
 · have e1 : (role == 1) = true := by simp [h1]
   have H1 : Hid (role = 1) := h1
   clear h1
   go_enter Tryz.func143, Tryz.ntmps143
   go_wp2_with fail
   refine (allIn_any a b ca cb may stuffs _ hx hy lx ly).mono ?_
   rintro e w1 ⟨rfl, rfl⟩
   go_wp2
   go_ret
   exact ⟨ret_bool (by simp [fitsB, H1.out]), rfl⟩
 have e1 : (role == 1) = false := by simp [h1]
 have H1 : Hid (¬ role = 1) := h1
 clear h1
 by_cases h2 : role = 2
 · have e2 : (role == 2) = true := by simp [h2]
   have H2 : Hid (role = 2) := h2
   clear h2
   go_enter Tryz.func143, Tryz.ntmps143
   go_wp2_with fail
   refine (allIn_any b a cb ca stuffs may _ hy hx ly lx).mono ?_
   rintro e w1 ⟨rfl, rfl⟩
   go_wp2
   go_ret
   exact ⟨ret_bool (by simp [fitsB, H2.out]), rfl⟩
 have e2 : (role == 2) = false := by simp [h2]
 have H2 : Hid (¬ role = 2) := h2
 clear h2
 go_enter Tryz.func143, Tryz.ntmps143
 go_wp2_with fail
 refine (allIn_any a b ca cb may stuffs _ hx hy lx ly).mono ?_
 rintro e w1 ⟨rfl, rfl⟩
 cases hq : allB may stuffs with
 | false =>
  go_wp2
  go_ret
  exact ⟨ret_bool (by simp [fitsB, H1.out, H2.out, hq]), rfl⟩
 | true =>
 go_wp2_with fail
 refine (allIn_any b a cb ca stuffs may _ hy hx ly lx).mono ?_
 rintro e w1 ⟨rfl, rfl⟩
 go_wp2
 go_ret
 exact ⟨ret_bool (by simp [fitsB, H1.out, H2.out, hq]), rfl⟩

/-- What the program's placeOk asks. -/
def placeB (s : Spot) (y : Want) (u : Use) : Bool :=
 decide (s.least + u.amount ≤ s.most) && (if y.kind == 2 then s.most == 0 else if y.kind == 1 then fitsB s.may y.stuffs u.role else true)

theorem place_same {s : Spot} {y : Want} {u : Use} (g1 : 0 ≤ s.least) (g3 : 0 ≤ u.amount) : placeB s y u = useOkB s y u := by
 unfold placeB useOkB fitsB
 by_cases h : s.least + u.amount ≤ s.most
 · rw [decide_eq_true h, Bool.true_and, Bool.and_true]
   by_cases k2 : y.kind = 2
   · have : (s.most == 0) = !decide (0 < s.most) := by rw [Bool.eq_iff_iff]; simp; omega
     simp [k2, this]
   by_cases k1 : y.kind = 1
   · by_cases r1 : u.role = 1
     · simp [k1, r1]
     by_cases r2 : u.role = 2
     · simp [k1, r2]
     have e1 : (u.role == 1) = false := by simp [r1]
     have e2 : (u.role == 2) = false := by simp [r2]
     simp [k1, e1, e2]
   simp [k1, k2]
 · rw [decide_eq_false h]; simp

set_option maxRecDepth 100000 in
set_option maxHeartbeats 2000000 in
theorem placeOk_any (s : Spot) (m : Option Addr) (c : Nat) (y : Want) (a2 a3 a4 a5 : Option Addr) (c2 c3 c4 c5 : Nat) (u : Use) (w : World) (hs : StrsAt w m s.may) (hy : StrsAt w a2 y.stuffs) (ls : s.may.length ≤ maxLen) (ly : y.stuffs.length ≤ maxLen)
 (g1 : 0 ≤ s.least) (g2 : s.least ≤ 1000) (g3 : 0 ≤ u.amount) (g4 : u.amount ≤ 1000) :
 Calls Tryz.prog 108 #[spotV s m c, wantW y a2 a3 a4 a5 c2 c3 c4 c5, useV u] w fun e w' => e = .returned (.bool (useOkB s y u)) ∧ Below w.heap.size w w' := by
 rw [← place_same g1 g3]
 unfold spotV wantW useV
 have b0 : Below w.heap.size w (((w.alloc (.cells #[.string s.name, .int .i64 s.cap, .int .i64 s.least, .int .i64 s.most, .slice m s.may.length c] 72)).alloc (.cells #[.int .i64 y.number, .int .i64 y.kind, .slice a2 y.stuffs.length c2, .slice a3 y.uses.length c3, .slice a4 y.opens.length c4, .slice a5 y.shuts.length c5] 38)).alloc (.cells #[.string u.name, .int .i64 u.role, .int .i64 u.amount] 101)) :=
  (((Below.refl _ _).alloc (Nat.le_refl _) _).alloc (by simp) _).alloc (by simp; omega) _
 have si : Row (((w.alloc (.cells #[.string s.name, .int .i64 s.cap, .int .i64 s.least, .int .i64 s.most, .slice m s.may.length c] 72)).alloc (.cells #[.int .i64 y.number, .int .i64 y.kind, .slice a2 y.stuffs.length c2, .slice a3 y.uses.length c3, .slice a4 y.opens.length c4, .slice a5 y.shuts.length c5] 38)).alloc (.cells #[.string u.name, .int .i64 u.role, .int .i64 u.amount] 101)) w.heap.size 72 [.string s.name, .int .i64 s.cap, .int .i64 s.least, .int .i64 s.most, .slice m s.may.length c] := ((Row.new _ _ _).alloc _).alloc _
 have ui : Row (((w.alloc (.cells #[.string s.name, .int .i64 s.cap, .int .i64 s.least, .int .i64 s.most, .slice m s.may.length c] 72)).alloc (.cells #[.int .i64 y.number, .int .i64 y.kind, .slice a2 y.stuffs.length c2, .slice a3 y.uses.length c3, .slice a4 y.opens.length c4, .slice a5 y.shuts.length c5] 38)).alloc (.cells #[.string u.name, .int .i64 u.role, .int .i64 u.amount] 101)) (w.heap.size + 1 + 1) 101 [.string u.name, .int .i64 u.role, .int .i64 u.amount] := by
  have := Row.new ((w.alloc (.cells #[.string s.name, .int .i64 s.cap, .int .i64 s.least, .int .i64 s.most, .slice m s.may.length c] 72)).alloc (.cells #[.int .i64 y.number, .int .i64 y.kind, .slice a2 y.stuffs.length c2, .slice a3 y.uses.length c3, .slice a4 y.opens.length c4, .slice a5 y.shuts.length c5] 38)) 101 [.string u.name, .int .i64 u.role, .int .i64 u.amount]
  simpa using this
 have t1 := ta_clean_clean
 have t2 := ta_move_clean
 have t3 := ta_move_move
 have t4 := ta_permit_clean
 have t5 := ta_permit_move
 have t6 := ta_nil_clean
 have t7 := ta_nil_move
 by_cases h : s.least + u.amount ≤ s.most
 case neg =>
  have h' : s.most < s.least + u.amount := by omega
  clear h
  go_enter Tryz.func108, Tryz.ntmps108
  go_wp2
  go_ret
  exact ⟨ret_bool (by unfold placeB; rw [decide_eq_false (by omega)]; rfl), b0⟩
 have h' : ¬ s.most < s.least + u.amount := by omega
 have HD : Hid (decide (s.least + u.amount ≤ s.most) = true) := decide_eq_true h
 go_enter Tryz.func108, Tryz.ntmps108
 go_wp2_with fail
 refine (kinded_any y.number y.kind (.slice a2 y.stuffs.length c2) (.slice a3 y.uses.length c3) (.slice a4 y.opens.length c4) (.slice a5 y.shuts.length c5) _ rfl rfl rfl rfl).mono ?_
 rintro e w1 ⟨rfl, hb⟩
 have b1 := b0.trans (hb.mono b0.size)
 have y3 := (si.later hb).cell 3 rfl
 have y4 := (si.later hb).cell 4 rfl
 have z1 := (ui.later hb).cell 1 rfl
 have hz1 := (si.later hb).lt
 have hz2 := (ui.later hb).lt
 clear b0 si ui hb
 by_cases k2 : y.kind = 2
 · have hk : kindV y.kind #[.int .i64 y.number, .int .i64 y.kind, .slice a2 y.stuffs.length c2, .slice a3 y.uses.length c3, .slice a4 y.opens.length c4, .slice a5 y.shuts.length c5] = .iface 159 (.agg #[.int .i64 y.number, .int .i64 y.kind, .slice a2 y.stuffs.length c2, .slice a3 y.uses.length c3, .slice a4 y.opens.length c4, .slice a5 y.shuts.length c5]) := by simp [kindV, k2]
   rw [hk]
   have HK : Hid (y.kind = 2) := k2
   clear k2 hk
   go_wp2
   go_ret
   exact ⟨ret_bool (by simp [placeB, HD.out, HK.out]), b1.alloc b1.size _⟩
 by_cases k1 : y.kind = 1
 · have hk : kindV y.kind #[.int .i64 y.number, .int .i64 y.kind, .slice a2 y.stuffs.length c2, .slice a3 y.uses.length c3, .slice a4 y.opens.length c4, .slice a5 y.shuts.length c5] = .iface 160 (.agg #[.int .i64 y.number, .int .i64 y.kind, .slice a2 y.stuffs.length c2, .slice a3 y.uses.length c3, .slice a4 y.opens.length c4, .slice a5 y.shuts.length c5]) := by simp [kindV, k1]
   rw [hk]
   have HK : Hid (y.kind = 1) := k1
   clear k1 hk k2
   have b2 : Below w.heap.size w (w1.alloc (.cells #[.int .i64 y.number, .int .i64 y.kind, .slice a2 y.stuffs.length c2, .slice a3 y.uses.length c3, .slice a4 y.opens.length c4, .slice a5 y.shuts.length c5] 160)) := b1.alloc b1.size _
   go_wp2_with fail
   refine (mayFits_any m a2 c c2 s.may y.stuffs u.role _ (hs.later b2) (hy.later b2) ls ly).mono ?_
   rintro e w2 ⟨rfl, rfl⟩
   go_wp2
   go_ret
   exact ⟨ret_bool (by simp [placeB, HD.out, HK.out]), b2⟩
 by_cases k3 : y.kind = 3
 · have hk : kindV y.kind #[.int .i64 y.number, .int .i64 y.kind, .slice a2 y.stuffs.length c2, .slice a3 y.uses.length c3, .slice a4 y.opens.length c4, .slice a5 y.shuts.length c5] = .iface 172 (.agg #[.int .i64 y.number, .int .i64 y.kind, .slice a2 y.stuffs.length c2, .slice a3 y.uses.length c3, .slice a4 y.opens.length c4, .slice a5 y.shuts.length c5]) := by simp [kindV, k3]
   rw [hk]
   have HK : Hid (y.kind = 3) := k3
   clear k3 hk k2 k1
   go_wp2
   go_ret
   exact ⟨ret_bool (by simp [placeB, HD.out, HK.out]), b1⟩
 · have hk : kindV y.kind #[.int .i64 y.number, .int .i64 y.kind, .slice a2 y.stuffs.length c2, .slice a3 y.uses.length c3, .slice a4 y.opens.length c4, .slice a5 y.shuts.length c5] = .nilIface := by simp [kindV, k1, k2, k3]
   rw [hk]
   have HK : Hid (¬ y.kind = 1 ∧ ¬ y.kind = 2) := ⟨k1, k2⟩
   clear k3 hk k2 k1
   go_wp2
   go_ret
   exact ⟨ret_bool (by simp [placeB, HD.out, HK.out.1, HK.out.2]), b1⟩

end Go.Proofs.YtfmhkicncgccjaaGreat

