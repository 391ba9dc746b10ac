/- What the program's partsOk answers. -/
import Derived.Test.YtfmhkicncgccjaaGreatBkI5
import Derived.Test.YtfmhkicncgccjaaGreatBkS7
namespace Go.Proofs.YtfmhkicncgccjaaGreat
open Go.RowKit Go.Sort
set_option linter.unusedSimpArgs false
set_option linter.unusedVariables false

set_option maxHeartbeats 400000 in
theorem partsOk1_any (p q : Part) (a2 a3 a4 a5 : Option Addr) (c2 c3 c4 c5 : Nat) (e2 e3 e4 e5 : Option Addr) (d2 d3 d4 d5 : Nat) (w : World) :
    Calls Tryz.prog 104 #[partV p a2 a3 a4 a5 c2 c3 c4 c5, partV q e2 e3 e4 e5 d2 d3 d4 d5] w fun e w' => e = .returned (.bool (decide (p.want.number < q.want.number))) ∧ Below w.heap.size w w' := by
  unfold partV
  go_enter Tryz.func104, Tryz.ntmps104
  go_wp2
  go_ret
  exact ⟨rfl, ((Below.refl _ _).alloc (Nat.le_refl _) _).alloc (by simp) _⟩

def ascPB (ps : List Part) : Bool := allTo ps.length (fun k => k == 0 || decide ((gq ps (k - 1)).want.number < (gq ps k).want.number))

set_option maxRecDepth 100000 in
set_option maxHeartbeats 1000000 in
theorem ascendingP_any (a : Option Addr) (cap : Nat) (us : List Part) (w : World) (hm : PartsAt w a us) (hl : us.length ≤ maxLen) :
    Calls Tryz.prog 103 #[.slice a us.length cap, .func (.func 104) #[] #[]] w fun e w' => e = .returned (.bool (ascPB us)) ∧ Below w.heap.size w w' := by
  unfold maxLen at hl
  go_enter Tryz.func103, Tryz.ntmps103
  go_wp2
  go_loopw [5] (fun i wr => ∃ (k : Nat), (k ≤ us.length ∨ k = 1) ∧ 1 ≤ k ∧ i = .int .i64 k ∧ allTo k (fun k => k == 0 || decide ((gq us (k - 1)).want.number < (gq us k).want.number)) = true ∧ Below w.heap.size w wr) (fun i _ => us.length - (intOf i).toNat)
  case atStart => exact ⟨1, Or.inr rfl, Nat.le_refl _, rfl, rfl, Below.refl _ _⟩
  case round wr =>
    obtain ⟨k, hk, hk1, rfl, hall, hbel⟩ := hrel
    by_cases hlt : k < us.length
    · obtain ⟨j, rfl⟩ : ∃ j, k = j + 1 := ⟨k - 1, by omega⟩
      obtain ⟨b, o, a2, a3, a4, a5, c2, c3, c4, c5, ha, hb, hc0, hc1, hc2, hc3, hc4, hc5, hc6, -⟩ := (hm.later hbel).at hlt
      obtain ⟨b', o', x2, x3, x4, x5, g2, g3, g4, g5, ha', hb', hd0, hd1, hd2, hd3, hd4, hd5, hd6, -⟩ := (hm.later hbel).at (k := j) (by omega)
      subst ha
      simp only [Option.some.injEq, Addr.mk.injEq, and_true] at ha'
      obtain ⟨rfl, rfl⟩ := ha'
      have r0 := cell_regrown hc0
      have r1 := cell_regrown hc1
      have r2 := cell_regrown hc2
      have r3 := cell_regrown hc3
      have r4 := cell_regrown hc4
      have r5 := cell_regrown hc5
      have r6 := cell_regrown hc6
      have s0 := cell_regrown hd0
      have s1 := cell_regrown hd1
      have s2 := cell_regrown hd2
      have s3 := cell_regrown hd3
      have s4 := cell_regrown hd4
      have s5 := cell_regrown hd5
      have s6 := cell_regrown hd6
      have hcall := fun d os => Calls.regrown_of (w := wr) (partsOk1_any (gq us j) (gq us (j + 1)) x2 x3 x4 x5 g2 g3 g4 g5 a2 a3 a4 a5 c2 c3 c4 c5 (grow (redrawn wr d) os))
      unfold partV at hcall
      have hwrap : IntKind.i64.wrap (j : Int) = j := by rw [IntKind.wrap_i64]; omega
      have hj1 : (j : Int) < us.length := by omega
      have hj2 : (j : Int) + 1 < us.length := by omega
      have hj3 : (0 : Int) ≤ (j : Int) + 1 := by omega
      have hj4 : ((j : Int) + 1).toNat = j + 1 := by omega
      clear hc0 hc1 hc2 hc3 hc4 hc5 hc6 hd0 hd1 hd2 hd3 hd4 hd5 hd6
      go_wp2
      refine wp_region_quiet_below (by kernel_rfl) (by kernel_rfl) ?_
      repeat (first | go_big_quiet_step (with_reducible exact hcall _ _) | quiet_step (with_reducible exact hcall _ _))
      refine wpQuiet_nil ?_
      intro w1 hw'
      obtain ⟨⟨dq, osq⟩, hw''⟩ := hw'
      have hbel1 : Below w.heap.size w w1 := hbel.trans ((hw'' ▸ below_regrown wr dq osq).mono hbel.size)
      clear hw'' hcall r0 r1 r2 r3 r4 r5 r6 s0 s1 s2 s3 s4 s5 s6
      cases hq : decide ((gq us j).want.number < (gq us (j + 1)).want.number) with
      | true =>
        go_wp2
        go_roundw
        case rel => exact ⟨j + 1 + 1, by omega, by omega, by go_num, allTo_succ hall (by rw [Nat.add_sub_cancel, hq]; simp), hbel1⟩
        case measure => simp [intOf]; omega
      | false =>
        go_wp2
        go_ret
        exact ⟨ret_bool (allTo_false (j + 1) hlt (by rw [Nat.add_sub_cancel, hq]; simp)).symm, hbel1⟩
    · go_wp2
      go_ret
      refine ⟨ret_bool ?_, hbel⟩
      refine (allTo_iff.2 fun i hi => ?_).symm
      exact allTo_iff.1 hall i (by omega)

/-- A part by itself, as the program's partsOk asks. -/
def partAtI (x : Book) (p : Part) : Bool := decide (p.want.number ≤ x.seen) && wantB p.want && knowsB x p.want

set_option maxRecDepth 100000 in
set_option maxHeartbeats 2000000 in
theorem partsOk_any (x : Book) (af ap av aq : Option Addr) (cf cp cv cq : Nat) (w : World) (hx : BookIn w x af ap av aq) (fx : BookFit x) :
    Calls Tryz.prog 55 #[bookV x af ap av aq cf cp cv cq] w fun e w' => e = .returned (.bool (decide ((x.parts.length : Int) ≤ 6) && allTo x.parts.length (fun k => partAtI x (gq x.parts k)) && ascPB x.parts)) ∧ Below w.heap.size w w' := by
  have hl := fx.parts.len
  unfold maxLen at hl
  unfold bookV
  by_cases hmany : 6 < (x.parts.length : Int)
  · go_enter Tryz.func55, Tryz.ntmps55
    go_wp2
    go_ret
    exact ⟨ret_bool (by rw [decide_eq_false (by omega)]; rfl), (Below.refl _ _).alloc (Nat.le_refl _) _⟩
  · go_enter Tryz.func55, Tryz.ntmps55
    go_wp2
    go_loopw [4, 12] (fun _ i wr => ∃ (k : Nat), k ≤ x.parts.length ∧ i = .int .i64 k ∧ allTo k (fun k => partAtI x (gq x.parts k)) = true ∧ Below (w.alloc (.cells (bookL x af ap av aq cf cp cv cq).toArray 28)).heap.size (w.alloc (.cells (bookL x af ap av aq cf cp cv cq).toArray 28)) wr) (fun _ i _ => x.parts.length - (intOf i).toNat)
    case atStart => exact ⟨0, Nat.zero_le _, rfl, rfl, Below.refl _ _⟩
    case round wr =>
      obtain ⟨k, hk, rfl, hall, hbel⟩ := hrel
      have hbw := below_over hbel
      have bk := bookRow hbel
      by_cases hlt : k < x.parts.length
      · obtain ⟨b, o, a2, a3, a4, a5, c2, c3, c4, c5, ha, hb, hc0, hc1, hc2, hc3, hc4, hc5, hc6, hst⟩ := (hx.later hbw).parts.at hlt
        have hfp := fx.parts.wants _ (gq_mem hlt)
        have y4 := bk.cell 4 rfl
        have hz := bk.lt
        have hba : Below wr.heap.size wr (wr.alloc (.cells #[.int .i64 (gq x.parts k).want.number, .int .i64 (gq x.parts k).want.kind, .slice a2 (gq x.parts k).want.stuffs.length c2, .slice a3 (gq x.parts k).want.uses.length c3, .slice a4 (gq x.parts k).want.opens.length c4, .slice a5 (gq x.parts k).want.shuts.length c5, .bool (gq x.parts k).stopped] 61)) := (Below.refl _ _).alloc (Nat.le_refl _) _
        have frow := Row.new wr 61 (partL (gq x.parts k) a2 a3 a4 a5 c2 c3 c4 c5)
        have hbela := hbel.trans (hba.mono hbel.size)
        have bka := bk.later hba
        subst ha
        by_cases h1 : (gq x.parts k).want.number ≤ x.seen
        case neg =>
          have h1' : x.seen < (gq x.parts k).want.number := by omega
          clear h1
          go_wp2
          go_ret
          exact ⟨ret_bool (by rw [allTo_false k hlt (by unfold partAtI; rw [decide_eq_false (by omega)]; rfl)]; simp), below_over hbela⟩
        have h1' : ¬ x.seen < (gq x.parts k).want.number := by omega
        have HD : Hid (decide ((gq x.parts k).want.number ≤ x.seen) = true) := decide_eq_true h1
        go_wp2_with fail
        refine (implWantOk_any (gq x.parts k).want a2 a3 a4 a5 c2 c3 c4 c5 _ (hst.later hba) hfp).mono ?_
        rintro e w1 ⟨rfl, hb1⟩
        have row1 := frow.later hb1
        have bk1 := bka.later hb1
        have hbel1 := hbela.trans (hb1.mono hbela.size)
        have hst1 := (hst.later hba).later hb1
        clear hc0 hc1 hc2 hc3 hc4 hc5 hc6 hba frow hbela bka hb1 y4
        cases hq1 : wantB (gq x.parts k).want with
        | false =>
          go_wp2
          go_ret
          exact ⟨ret_bool (by rw [allTo_false k hlt (by simp [partAtI, hq1])]; simp), below_over hbel1⟩
        | true =>
        have f0 := row1.cell 0 rfl
        have f1 := row1.cell 1 rfl
        have f2 := row1.cell 2 rfl
        have f3 := row1.cell 3 rfl
        have f4 := row1.cell 4 rfl
        have f5 := row1.cell 5 rfl
        have y0 := bk1.cell 0 rfl
        have y1 := bk1.cell 1 rfl
        have y2 := bk1.cell 2 rfl
        have y3 := bk1.cell 3 rfl
        have y4 := bk1.cell 4 rfl
        go_wp2_with fail
        refine (knows_any x af ap av (some ⟨b, o, none⟩) cf cp cv cq (gq x.parts k).want a2 a3 a4 a5 c2 c3 c4 c5 _ (hx.later (below_over hbel1)) hst1 fx hfp).mono ?_
        rintro e w2 ⟨rfl, hb2⟩
        have hbel2 := hbel1.trans (hb2.mono hbel1.size)
        clear f0 f1 f2 f3 f4 f5 y0 y1 y2 y3 y4 row1 bk1 hb2 hst1
        cases hq2 : knowsB x (gq x.parts k).want with
        | false =>
          go_wp2
          go_ret
          exact ⟨ret_bool (by rw [allTo_false k hlt (by simp [partAtI, hq2])]; simp), below_over hbel2⟩
        | true =>
          go_wp2
          go_roundw
          case rel => exact ⟨k + 1, by omega, by go_num, allTo_succ hall (by unfold partAtI; rw [HD.out, hq1, hq2]; rfl), hbel2⟩
          case measure => simp [intOf]; omega
      · have : k = x.parts.length := by omega
        subst this
        have y3 := bk.cell 3 rfl
        go_wp2_with fail
        refine (ascendingP_any aq cq x.parts _ (hx.later hbw).parts fx.parts.len).mono ?_
        rintro e w1 ⟨rfl, hb1⟩
        go_wp2
        go_ret
        exact ⟨ret_bool (by rw [hall, decide_eq_true (by omega)]; rfl), hbw.trans (hb1.mono hbw.size)⟩

end Go.Proofs.YtfmhkicncgccjaaGreat
