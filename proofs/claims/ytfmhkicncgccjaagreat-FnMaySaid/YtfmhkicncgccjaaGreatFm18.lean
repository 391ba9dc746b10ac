/- Joined: BkS9. -/
import Derived.Deep.RegionWith
import Derived.Test.YtfmhkicncgccjaaGreatFm17
/- What the specification's l2PartsOk answers. -/
namespace Go.Proofs.YtfmhkicncgccjaaGreat
open Go.RowKit Go.Sort
set_option linter.unusedSimpArgs false
set_option linter.unusedVariables false

/-- Two wants have a place in common, or cross. -/
def meetB (x y : Want) : Bool := shareB (usesN x) (usesN y) || crossB x y
/-- A part at its place. -/
def partAtB (x : Book) (i : Nat) : Bool :=
 partOkB x (gq x.parts i) && (i == 0 || decide ((gq x.parts (i - 1)).want.number < (gq x.parts i).want.number)) && allTo i (fun k => !meetB (gq x.parts i).want (gq x.parts k).want)
def partsOkB (x : Book) : Bool := decide ((x.parts.length : Int) ≤ 6) && allTo x.parts.length (partAtB x)

theorem partsOkB_many {x : Book} (h : 6 < (x.parts.length : Int)) : partsOkB x = false := by unfold partsOkB; rw [decide_eq_false (by omega)]; rfl
theorem partsOkB_bad {x : Book} (k : Nat) (hk : k < x.parts.length) (h : partAtB x k = false) : partsOkB x = false := by unfold partsOkB; rw [allTo_false k hk h, Bool.and_false]
theorem partsOkB_good {x : Book} (h : ¬ 6 < (x.parts.length : Int)) (ha : allTo x.parts.length (partAtB x) = true) : partsOkB x = true := by unfold partsOkB; rw [ha, decide_eq_true (by omega)]; rfl
theorem partOk_uses {x : Book} {p : Part} (h : partOkB x p = true) : p.want.uses.length ≤ 8 := by
 unfold partOkB at h
 simp only [Bool.and_eq_true] at h
 have hw := h.1.1.1
 unfold wantB at hw
 simp only [Bool.and_eq_true] at hw
 have := usesS_len hw.1.1.1.1.1.1.1.2
 omega
theorem partAt_ok {x : Book} {i : Nat} (h : partAtB x i = true) : partOkB x (gq x.parts i) = true := by
 unfold partAtB at h
 simp only [Bool.and_eq_true] at h
 exact h.1.1

theorem cells6 {w w' : World} {b : Nat} {t : TypeId} {y : Want} {a2 a3 a4 a5 : Option Addr} {c2 c3 c4 c5 : Nat} (h : Row w b t (wantL y a2 a3 a4 a5 c2 c3 c4 c5)) (hb : Below w.heap.size w w') :
 w'.cell? ⟨b, 0, none⟩ = some (.int .i64 y.number) ∧ w'.cell? ⟨b, 1, none⟩ = some (.int .i64 y.kind) ∧ w'.cell? ⟨b, 2, none⟩ = some (.slice a2 y.stuffs.length c2) ∧ w'.cell? ⟨b, 3, none⟩ = some (.slice a3 y.uses.length c3) ∧
  w'.cell? ⟨b, 4, none⟩ = some (.slice a4 y.opens.length c4) ∧ w'.cell? ⟨b, 5, none⟩ = some (.slice a5 y.shuts.length c5) :=
 ⟨(h.later hb).cell 0 rfl, (h.later hb).cell 1 rfl, (h.later hb).cell 2 rfl, (h.later hb).cell 3 rfl, (h.later hb).cell 4 rfl, (h.later hb).cell 5 rfl⟩

set_option maxRecDepth 100000 in
set_option maxHeartbeats 8000000 in
theorem l2PartsOk_any (x : Book) (af ap av aq : Option Addr) (cf cp cv cq : Nat) (w : World) (hx : BookIn w x af ap av aq) (fx : BookFit x) (hlf : LeastFit x) :
 Calls Tryz.prog 47 #[bookV x af ap av aq cf cp cv cq] w fun e w' => e = .returned (.bool (partsOkB x)) ∧ Below w.heap.size w w' := by
 have hl := fx.parts.len
 unfold maxLen at hl
 unfold bookV
 by_cases hmany : 6 < (x.parts.length : Int)
 · go_enter Tryz.func47, Tryz.ntmps47
   go_wp2
   go_ret
   exact ⟨ret_bool (partsOkB_many hmany).symm, (Below.refl _ _).alloc (Nat.le_refl _) _⟩
 go_enter Tryz.func47, Tryz.ntmps47
 go_wp2
 go_loopw [3] (fun i wr => ∃ (k : Nat), k ≤ x.parts.length ∧ i = .int .i64 k ∧ allTo k (partAtB x) = true ∧ Below (w.alloc (.cells (bookL x af ap av aq cf cp cv cq).toArray 28)).heap.size (w.alloc (.cells (bookL x af ap av aq cf cp cv cq).toArray 28)) wr) (fun i _ => x.parts.length - (intOf i).toNat)
 case atStart => exact ⟨0, Nat.zero_le _, rfl, rfl, Below.refl _ _⟩
 case round wr =>
  obtain ⟨k, hk, rfl, hall, hbel⟩ := hrel
  have hbw := below_over hbel
  have bk := bookRow hbel
  have y3 := bk.cell 3 rfl
  have hz := bk.lt
  by_cases hlt : k < x.parts.length
  case neg =>
   have : k = x.parts.length := by omega
   subst this
   go_wp2
   go_ret
   exact ⟨ret_bool (partsOkB_good (by omega) hall).symm, hbw⟩
  obtain ⟨b, o, a2, a3, a4, a5, c2, c3, c4, c5, ha, hb, hc0, hc1, hc2, hc3, hc4, hc5, hc6, hst⟩ := (hx.later hbw).parts.at hlt
  have hfp := fx.parts.wants _ (gq_mem hlt)
  subst ha
  have hba : Below wr.heap.size wr (wr.alloc (.cells #[.int .i64 (gq x.parts k).want.number, .int .i64 (gq x.parts k).want.kind, .slice a2 (gq x.parts k).want.stuffs.length c2, .slice a3 (gq x.parts k).want.uses.length c3, .slice a4 (gq x.parts k).want.opens.length c4, .slice a5 (gq x.parts k).want.shuts.length c5] 38)) := (Below.refl _ _).alloc (Nat.le_refl _) _
  have wrow : Row (wr.alloc (.cells #[.int .i64 (gq x.parts k).want.number, .int .i64 (gq x.parts k).want.kind, .slice a2 (gq x.parts k).want.stuffs.length c2, .slice a3 (gq x.parts k).want.uses.length c3, .slice a4 (gq x.parts k).want.opens.length c4, .slice a5 (gq x.parts k).want.shuts.length c5] 38)) wr.heap.size 38 (wantL (gq x.parts k).want a2 a3 a4 a5 c2 c3 c4 c5) := Row.new wr _ _
  have hbwa := hbw.trans (hba.mono hbw.size)
  generalize hwa : wr.alloc (.cells #[.int .i64 (gq x.parts k).want.number, .int .i64 (gq x.parts k).want.kind, .slice a2 (gq x.parts k).want.stuffs.length c2, .slice a3 (gq x.parts k).want.uses.length c3, .slice a4 (gq x.parts k).want.opens.length c4, .slice a5 (gq x.parts k).want.shuts.length c5] 38) = wa at hba wrow hbwa
  have e0 := cell_regrown ((bk.later hba).cell 0 rfl)
  have e1 := cell_regrown ((bk.later hba).cell 1 rfl)
  have e2 := cell_regrown ((bk.later hba).cell 2 rfl)
  have e3 := cell_regrown ((bk.later hba).cell 3 rfl)
  have e4 := cell_regrown ((bk.later hba).cell 4 rfl)
  have d0 := cell_regrown (cell_later hba hc0)
  have d1 := cell_regrown (cell_later hba hc1)
  have d2 := cell_regrown (cell_later hba hc2)
  have d3 := cell_regrown (cell_later hba hc3)
  have d4 := cell_regrown (cell_later hba hc4)
  have d5 := cell_regrown (cell_later hba hc5)
  have d6 := cell_regrown (cell_later hba hc6)
  have f0 := cell_regrown (wrow.cell 0 rfl)
  have hcall := fun d os => Calls.regrown_of (w := wa) (l2PartOk_any x af ap av _ cf cp cv cq (gq x.parts k) a2 a3 a4 a5 c2 c3 c4 c5 (grow (redrawn wa d) os) (hx.later (hbwa.trans ((below_regrown wa d os).mono hbwa.size))) (hst.later (hba.trans ((below_regrown wa d os).mono hba.size))) fx hfp hlf)
  unfold bookV partV at hcall
  have hlt2 : (k : Int) < x.parts.length := by omega
  have HWA : Hid (wr.alloc (.cells #[.int .i64 (gq x.parts k).want.number, .int .i64 (gq x.parts k).want.kind, .slice a2 (gq x.parts k).want.stuffs.length c2, .slice a3 (gq x.parts k).want.uses.length c3, .slice a4 (gq x.parts k).want.opens.length c4, .slice a5 (gq x.parts k).want.shuts.length c5] 38) = wa) := hwa
  clear hwa
  go_wp2
  rw [HWA.out]
  cases hq1 : partOkB x (gq x.parts k) with
  | false =>
   rw [hq1] at hcall
   refine wp_region_quiet_below (by kernel_rfl) (by kernel_rfl) ?_
   repeat (first | go_big_quiet_step (with_reducible exact hcall _ _) | quiet_step (with_reducible exact hcall _ _))
   refine wpQuiet_nil ?_
   intro w2 hw'
   obtain ⟨⟨dq, osq⟩, hw''⟩ := hw'
   have hb2 : Below wa.heap.size wa w2 := hw'' ▸ below_regrown wa dq osq
   clear hw'' hcall
   go_wp2
   go_ret
   exact ⟨ret_bool (partsOkB_bad k hlt (by simp [partAtB, hq1])).symm, hbwa.trans (hb2.mono hbwa.size)⟩
  | true =>
  rw [hq1] at hcall
  by_cases hord : k = 0 ∨ (gq x.parts (k - 1)).want.number < (gq x.parts k).want.number
  case neg =>
   have hpos : 0 < k := by omega
   obtain ⟨j, hj⟩ : ∃ j, k = j + 1 := ⟨k - 1, by omega⟩
   have hkj : (k : Int) - 1 = (j : Int) := by omega
   obtain ⟨b', o', x2, x3, x4, x5, g2, g3, g4, g5, ha', hb', hn0, -⟩ := (hx.later hbw).parts.at (k := j) (by omega)
   simp only [Option.some.injEq, Addr.mk.injEq, and_true] at ha'
   obtain ⟨rfl, rfl⟩ := ha'
   have n0 := cell_regrown (cell_later hba hn0)
   have hwrap : IntKind.i64.wrap (j : Int) = j := by rw [IntKind.wrap_i64]; omega
   have hj1 : (j : Int) < x.parts.length := by omega
   have hge : (gq x.parts k).want.number ≤ (gq x.parts j).want.number := by
    have : k - 1 = j := by omega
    rw [this] at hord
    omega
   have hbad : partAtB x k = false := by
    have e1 : (k == 0) = false := by simp; omega
    have e2 : k - 1 = j := by omega
    unfold partAtB
    rw [e1, e2, decide_eq_false (by omega)]
    simp
   have HB : Hid (partAtB x k = false) := hbad
   clear hbad hord hj
   refine wp_region_quiet_below (by kernel_rfl) (by kernel_rfl) ?_
   repeat (first | go_big_quiet_step (with_reducible exact hcall _ _) | quiet_step (with_reducible exact hcall _ _))
   refine wpQuiet_nil ?_
   intro w2 hw'
   obtain ⟨⟨dq, osq⟩, hw''⟩ := hw'
   have hb2 : Below wa.heap.size wa w2 := hw'' ▸ below_regrown wa dq osq
   clear hw'' hcall
   go_wp2
   go_ret
   exact ⟨ret_bool (partsOkB_bad k hlt HB.out).symm, hbwa.trans (hb2.mono hbwa.size)⟩
  have hpre : (k == 0 || decide ((gq x.parts (k - 1)).want.number < (gq x.parts k).want.number)) = true := by simpa using hord
  have HP : Hid ((k == 0 || decide ((gq x.parts (k - 1)).want.number < (gq x.parts k).want.number)) = true) := hpre
  clear hpre
  refine wp_region_quiet_below (by kernel_rfl) (by kernel_rfl) ?_
  by_cases hpos : 0 < k
  · obtain ⟨j, hj⟩ : ∃ j, k = j + 1 := ⟨k - 1, by omega⟩
    have hkj : (k : Int) - 1 = (j : Int) := by omega
    obtain ⟨b', o', x2, x3, x4, x5, g2, g3, g4, g5, ha', hb', hn0, -⟩ := (hx.later hbw).parts.at (k := j) (by omega)
    simp only [Option.some.injEq, Addr.mk.injEq, and_true] at ha'
    obtain ⟨rfl, rfl⟩ := ha'
    have n0 := cell_regrown (cell_later hba hn0)
    have hwrap : IntKind.i64.wrap (j : Int) = j := by rw [IntKind.wrap_i64]; omega
    have hj1 : (j : Int) < x.parts.length := by omega
    have hlt3 : (gq x.parts j).want.number < (gq x.parts k).want.number := by
     have : k - 1 = j := by omega
     rw [this] at hord
     rcases hord with h | h
     · omega
     · exact h
    clear hord hj
    repeat (first | go_big_quiet_step (with_reducible exact hcall _ _) | quiet_step (with_reducible exact hcall _ _))
    refine wpQuiet_nil ?_
    clear n0 hwrap hj1 hn0 hb' hkj
    intro w2 hw'
    obtain ⟨⟨dq, osq⟩, hw''⟩ := hw'
    have hb2 : Below wa.heap.size wa w2 := hw'' ▸ below_regrown wa dq osq
    have hbw2 := hbwa.trans (hb2.mono hbwa.size)
    have bk2 := (bk.later hba).later hb2
    have wrow2 := wrow.later hb2
    have hst2 := (hst.later hba).later hb2
    have hbel2 := hbel.trans ((hba.trans (hb2.mono hba.size)).mono hbel.size)
    have hul := partOk_uses hq1
    clear hw'' hcall e0 e1 e2 e3 e4 d0 d1 d2 d3 d4 d5 d6 f0 hc0 hc1 hc2 hc3 hc4 hc5 hc6 hst wrow bk y3
    go_wp2
    go_loopw [5] (fun i wv => ∃ (j : Nat) (w3 : World), w3 = wv ∧ j ≤ k ∧ i = .int .i64 j ∧ allTo j (fun i => !meetB (gq x.parts k).want (gq x.parts i).want) = true ∧ Below w2.heap.size w2 w3) (fun i _ => k - (intOf i).toNat)
    case atStart => exact ⟨0, _, rfl, Nat.zero_le _, rfl, rfl, Below.refl _ _⟩
    case round =>
     obtain ⟨j, w3, rfl, hj, rfl, hallj, hb3⟩ := hrel
     have hbw3 := hbw2.trans (hb3.mono hbw2.size)
     have bk3 := bk2.later hb3
     have y3 := bk3.cell 3 rfl
     by_cases hjk : j < k
     · obtain ⟨b', o', x2, x3, x4, x5, g2, g3, g4, g5, ha', hb', hn0, hn1, hn2, hn3, hn4, hn5, hn6, hsj⟩ := (hx.later hbw3).parts.at (k := j) (by omega)
       simp only [Option.some.injEq, Addr.mk.injEq, and_true] at ha'
       obtain ⟨rfl, rfl⟩ := ha'
       have hfj := fx.parts.wants _ (gq_mem (show j < x.parts.length by omega))
       have hulj := partOk_uses (partAt_ok (allTo_iff.1 hall j hjk))
       have hun1 : (usesN (gq x.parts k).want).length ≤ maxLen := by rw [usesN_len]; unfold maxLen; omega
       have hun2 : (usesN (gq x.parts j).want).length ≤ maxLen := by rw [usesN_len]; unfold maxLen; omega
       have hbb : Below w3.heap.size w3 (w3.alloc (.cells #[.int .i64 (gq x.parts j).want.number, .int .i64 (gq x.parts j).want.kind, .slice x2 (gq x.parts j).want.stuffs.length g2, .slice x3 (gq x.parts j).want.uses.length g3, .slice x4 (gq x.parts j).want.opens.length g4, .slice x5 (gq x.parts j).want.shuts.length g5] 38)) := (Below.refl _ _).alloc (Nat.le_refl _) _
       have orow : Row (w3.alloc (.cells #[.int .i64 (gq x.parts j).want.number, .int .i64 (gq x.parts j).want.kind, .slice x2 (gq x.parts j).want.stuffs.length g2, .slice x3 (gq x.parts j).want.uses.length g3, .slice x4 (gq x.parts j).want.opens.length g4, .slice x5 (gq x.parts j).want.shuts.length g5] 38)) w3.heap.size 38 (wantL (gq x.parts j).want x2 x3 x4 x5 g2 g3 g4 g5) := Row.new w3 _ _
       have wrow3 := (wrow2.later hb3).later hbb
       have hstb := (hst2.later hb3).later hbb
       have hsjb := hsj.later hbb
       have hbwb := hbw3.trans (hbb.mono hbw3.size)
       generalize hwb : w3.alloc (.cells #[.int .i64 (gq x.parts j).want.number, .int .i64 (gq x.parts j).want.kind, .slice x2 (gq x.parts j).want.stuffs.length g2, .slice x3 (gq x.parts j).want.uses.length g3, .slice x4 (gq x.parts j).want.opens.length g4, .slice x5 (gq x.parts j).want.shuts.length g5] 38) = wb at hbb orow wrow3 hstb hsjb hbwb
       have HWB : Hid (w3.alloc (.cells #[.int .i64 (gq x.parts j).want.number, .int .i64 (gq x.parts j).want.kind, .slice x2 (gq x.parts j).want.stuffs.length g2, .slice x3 (gq x.parts j).want.uses.length g3, .slice x4 (gq x.parts j).want.opens.length g4, .slice x5 (gq x.parts j).want.shuts.length g5] 38) = wb) := hwb
       clear hwb
       go_wp2
       rw [HWB.out]
       obtain ⟨z0, z1, z2, z3, z4, z5⟩ := cells6 wrow3 (Below.refl _ _)
       obtain ⟨v0, v1, v2, v3, v4, v5⟩ := cells6 orow (Below.refl _ _)
       clear hn0 hn1 hn2 hn3 hn4 hn5 hn6 y3
       cases hsh : shareB (usesN (gq x.parts k).want) (usesN (gq x.parts j).want) with
       | true =>
        have HBad : Hid (partAtB x k = false) := by
         have hbad : partAtB x k = false := by
          unfold partAtB
          rw [allTo_false j hjk (by simp [meetB, hsh])]
          simp
         exact hbad
        go_region_with (first
         | (go_at_call_of 87 (Value.int IntKind.i64 (gq x.parts k).want.number)
            refine (l2Uses_any (gq x.parts k).want a2 a3 a4 a5 c2 c3 c4 c5 _ ?_ hul).mono ?_
            · exact hstb.uses.later (Below.drew (Below.refl _ _))
            rintro e u1 ⟨⟨p1, q1, rfl, st1⟩, hu1⟩
            have hw1 := Below.trans (Below.drew (Below.refl wb.heap.size wb)) hu1
            clear hu1
            obtain ⟨v0, v1, v2, v3, v4, v5⟩ := cells6 orow hw1)
         | (go_at_call_of 87 (Value.int IntKind.i64 (gq x.parts j).want.number)
            refine (l2Uses_any (gq x.parts j).want x2 x3 x4 x5 g2 g3 g4 g5 _ (hsjb.later hw1).uses hulj).mono ?_
            rintro e u2 ⟨⟨p2, q2, rfl, st2⟩, hu2⟩
            have st1' := st1.later hu2
            have hw2 := hw1.trans (hu2.mono hw1.size)
            clear hu2 v0 v1 v2 v3 v4 v5
            obtain ⟨v0, v1, v2, v3, v4, v5⟩ := cells6 orow hw2
            obtain ⟨t0, t1, t2, t3, t4, t5⟩ := cells6 wrow3 hw2)
         | (go_at_call 86
            refine (l1Share_any p1 p2 q1 q2 (usesN (gq x.parts k).want) (usesN (gq x.parts j).want) _ st1' st2 hun1 hun2).mono ?_
            rintro e u3 ⟨rfl, rfl⟩
            rw [hsh]))
        all_goals go_wp2
        all_goals go_ret
        all_goals exact ⟨ret_bool (partsOkB_bad k hlt HBad.out).symm, hbwb.trans (hw2.mono hbwb.size)⟩
       | false =>
        cases hcr : crossB (gq x.parts k).want (gq x.parts j).want with
        | true =>
         have HBad : Hid (partAtB x k = false) := by
          have hbad : partAtB x k = false := by
           unfold partAtB
           rw [allTo_false j hjk (by simp [meetB, hsh, hcr])]
           simp
          exact hbad
         go_region_with (first
          | (go_at_call_of 87 (Value.int IntKind.i64 (gq x.parts k).want.number)
             refine (l2Uses_any (gq x.parts k).want a2 a3 a4 a5 c2 c3 c4 c5 _ ?_ hul).mono ?_
             · exact hstb.uses.later (Below.drew (Below.refl _ _))
             rintro e u1 ⟨⟨p1, q1, rfl, st1⟩, hu1⟩
             have hw1 := Below.trans (Below.drew (Below.refl wb.heap.size wb)) hu1
             clear hu1
             obtain ⟨v0, v1, v2, v3, v4, v5⟩ := cells6 orow hw1)
          | (go_at_call_of 87 (Value.int IntKind.i64 (gq x.parts j).want.number)
             refine (l2Uses_any (gq x.parts j).want x2 x3 x4 x5 g2 g3 g4 g5 _ (hsjb.later hw1).uses hulj).mono ?_
             rintro e u2 ⟨⟨p2, q2, rfl, st2⟩, hu2⟩
             have st1' := st1.later hu2
             have hw2 := hw1.trans (hu2.mono hw1.size)
             clear hu2 v0 v1 v2 v3 v4 v5
             obtain ⟨v0, v1, v2, v3, v4, v5⟩ := cells6 orow hw2
             obtain ⟨t0, t1, t2, t3, t4, t5⟩ := cells6 wrow3 hw2)
          | (go_at_call 86
             refine (l1Share_any p1 p2 q1 q2 (usesN (gq x.parts k).want) (usesN (gq x.parts j).want) _ st1' st2 hun1 hun2).mono ?_
             rintro e u3 ⟨rfl, rfl⟩
             rw [hsh])
          | (go_at_call 88
             refine (l2Crosses_any (gq x.parts k).want (gq x.parts j).want a2 a3 a4 a5 c2 c3 c4 c5 x2 x3 x4 x5 g2 g3 g4 g5 _ (hstb.later hw2) (hsjb.later hw2) hfp hfj).mono ?_
             rintro e u4 ⟨rfl, hu4⟩
             have hw4 := hw2.trans (hu4.mono hw2.size)
             rw [hcr]))
         all_goals go_wp2
         all_goals go_ret
         all_goals exact ⟨ret_bool (partsOkB_bad k hlt HBad.out).symm, hbwb.trans (hw4.mono hbwb.size)⟩
        | false =>
         go_region_with (first
          | (go_at_call_of 87 (Value.int IntKind.i64 (gq x.parts k).want.number)
             refine (l2Uses_any (gq x.parts k).want a2 a3 a4 a5 c2 c3 c4 c5 _ ?_ hul).mono ?_
             · exact hstb.uses.later (Below.drew (Below.refl _ _))
             rintro e u1 ⟨⟨p1, q1, rfl, st1⟩, hu1⟩
             have hw1 := Below.trans (Below.drew (Below.refl wb.heap.size wb)) hu1
             clear hu1
             obtain ⟨v0, v1, v2, v3, v4, v5⟩ := cells6 orow hw1)
          | (go_at_call_of 87 (Value.int IntKind.i64 (gq x.parts j).want.number)
             refine (l2Uses_any (gq x.parts j).want x2 x3 x4 x5 g2 g3 g4 g5 _ (hsjb.later hw1).uses hulj).mono ?_
             rintro e u2 ⟨⟨p2, q2, rfl, st2⟩, hu2⟩
             have st1' := st1.later hu2
             have hw2 := hw1.trans (hu2.mono hw1.size)
             clear hu2 v0 v1 v2 v3 v4 v5
             obtain ⟨v0, v1, v2, v3, v4, v5⟩ := cells6 orow hw2
             obtain ⟨t0, t1, t2, t3, t4, t5⟩ := cells6 wrow3 hw2)
          | (go_at_call 86
             refine (l1Share_any p1 p2 q1 q2 (usesN (gq x.parts k).want) (usesN (gq x.parts j).want) _ st1' st2 hun1 hun2).mono ?_
             rintro e u3 ⟨rfl, rfl⟩
             rw [hsh])
          | (go_at_call 88
             refine (l2Crosses_any (gq x.parts k).want (gq x.parts j).want a2 a3 a4 a5 c2 c3 c4 c5 x2 x3 x4 x5 g2 g3 g4 g5 _ (hstb.later hw2) (hsjb.later hw2) hfp hfj).mono ?_
             rintro e u4 ⟨rfl, hu4⟩
             have hw4 := hw2.trans (hu4.mono hw2.size)
             rw [hcr]))
         all_goals go_wp2
         all_goals go_roundw
         all_goals first
          | exact ⟨j + 1, _, rfl, by omega, by go_num, allTo_succ hallj (by simp [meetB, hsh, hcr]), hb3.trans ((hbb.trans (hw4.mono hbb.size)).mono hb3.size)⟩
          | (simp [intOf]; omega)
     · have hjj : j = k := by omega
       have hgood : partAtB x k = true := by
        have hallk := hallj
        rw [hjj] at hallk
        unfold partAtB
        rw [hq1, HP.out, hallk]
        rfl
       have HG : Hid (partAtB x k = true) := hgood
       clear hgood hjj
       go_wp2
       go_roundw
       case rel => exact ⟨k + 1, by omega, by go_num, allTo_succ hall HG.out, hbel2.trans (hb3.mono hbel2.size)⟩
       case measure => simp [intOf]; omega
  · clear hord
    repeat (first | go_big_quiet_step (with_reducible exact hcall _ _) | quiet_step (with_reducible exact hcall _ _))
    refine wpQuiet_nil ?_
    intro w2 hw'
    obtain ⟨⟨dq, osq⟩, hw''⟩ := hw'
    have hb2 : Below wa.heap.size wa w2 := hw'' ▸ below_regrown wa dq osq
    have hbw2 := hbwa.trans (hb2.mono hbwa.size)
    have bk2 := (bk.later hba).later hb2
    have wrow2 := wrow.later hb2
    have hst2 := (hst.later hba).later hb2
    have hbel2 := hbel.trans ((hba.trans (hb2.mono hba.size)).mono hbel.size)
    have hul := partOk_uses hq1
    clear hw'' hcall e0 e1 e2 e3 e4 d0 d1 d2 d3 d4 d5 d6 f0 hc0 hc1 hc2 hc3 hc4 hc5 hc6 hst wrow bk y3
    go_wp2
    go_loopw [5] (fun i wv => ∃ (j : Nat) (w3 : World), w3 = wv ∧ j ≤ k ∧ i = .int .i64 j ∧ allTo j (fun i => !meetB (gq x.parts k).want (gq x.parts i).want) = true ∧ Below w2.heap.size w2 w3) (fun i _ => k - (intOf i).toNat)
    case atStart => exact ⟨0, _, rfl, Nat.zero_le _, rfl, rfl, Below.refl _ _⟩
    case round =>
     obtain ⟨j, w3, rfl, hj, rfl, hallj, hb3⟩ := hrel
     have hbw3 := hbw2.trans (hb3.mono hbw2.size)
     have bk3 := bk2.later hb3
     have y3 := bk3.cell 3 rfl
     by_cases hjk : j < k
     · exfalso
       omega
     · have hjj : j = k := by omega
       have hgood : partAtB x k = true := by
        have hallk := hallj
        rw [hjj] at hallk
        unfold partAtB
        rw [hq1, HP.out, hallk]
        rfl
       have HG : Hid (partAtB x k = true) := hgood
       clear hgood hjj
       go_wp2
       go_roundw
       case rel => exact ⟨k + 1, by omega, by go_num, allTo_succ hall HG.out, hbel2.trans (hb3.mono hbel2.size)⟩
       case measure => simp [intOf]; omega

end Go.Proofs.YtfmhkicncgccjaaGreat

