/- What the program's placesOk answers of parts that are known and ok. -/
import Derived.Test.YtfmhkicncgccjaaGreatBkI7
namespace Go.Proofs.YtfmhkicncgccjaaGreat
open Go.RowKit Go.Sort
set_option linter.unusedSimpArgs false
set_option linter.unusedVariables false

def placesAt (x : Book) (k : Nat) : Bool := allTo (gq x.parts k).want.uses.length (fun i => useOkB (spotAtI x.spots (spotI x.spots (gu (gq x.parts k).want.uses i).name)) (gq x.parts k).want (gu (gq x.parts k).want.uses i))
def placesB (x : Book) : Bool := allTo x.parts.length (placesAt x)

set_option maxRecDepth 100000 in
set_option maxHeartbeats 4000000 in
theorem placesOk_any (x : Book) (af ap av aq : Option Addr) (cf cp cv cq : Nat) (w : World) (hx : BookIn w x af ap av aq) (fx : BookFit x) (hlf : LeastFit x) (hpk : ∀ k, k < x.parts.length → wantB (gq x.parts k).want = true ∧ knowsB x (gq x.parts k).want = true) :
    Calls Tryz.prog 57 #[bookV x af ap av aq cf cp cv cq] w fun e w' => e = .returned (.bool (placesB x)) ∧ Below w.heap.size w w' := by
  have hl := fx.parts.len
  unfold maxLen at hl
  unfold bookV
  go_enter Tryz.func57, Tryz.ntmps57
  go_wp2
  go_loopw [4, 6, 10] (fun _ _ i wr => ∃ (k : Nat), k ≤ x.parts.length ∧ i = .int .i64 k ∧ allTo k (placesAt x) = true ∧ Below (w.alloc (.cells (bookL x af ap av aq cf cp cv cq).toArray 28)).heap.size (w.alloc (.cells (bookL x af ap av aq cf cp cv cq).toArray 28)) wr) (fun _ _ i _ => x.parts.length - (intOf i).toNat)
  case atStart => exact ⟨0, Nat.zero_le _, rfl, rfl, Below.refl _ _⟩
  case round wr =>
    obtain ⟨k, hk, rfl, hall, hbel⟩ := hrel
    have hbw := below_over hbel
    have bk := bookRow hbel
    by_cases hlt : k < x.parts.length
    case neg =>
      have : k = x.parts.length := by omega
      subst this
      go_wp2
      go_ret
      exact ⟨ret_bool hall.symm, hbw⟩
    obtain ⟨b, o, a2, a3, a4, a5, c2, c3, c4, c5, ha, hb, hc0, hc1, hc2, hc3, hc4, hc5, hc6, hst⟩ := (hx.later hbw).parts.at hlt
    have hfp := fx.parts.wants _ (gq_mem hlt)
    obtain ⟨hwb, hkn⟩ := hpk k hlt
    have hul := hfp.usesLen
    unfold maxLen at hul
    subst ha
    have hba : Below wr.heap.size wr (wr.alloc (.cells #[.int .i64 (gq x.parts k).want.number, .int .i64 (gq x.parts k).want.kind, .slice a2 (gq x.parts k).want.stuffs.length c2, .slice a3 (gq x.parts k).want.uses.length c3, .slice a4 (gq x.parts k).want.opens.length c4, .slice a5 (gq x.parts k).want.shuts.length c5, .bool (gq x.parts k).stopped] 61)) := (Below.refl _ _).alloc (Nat.le_refl _) _
    have prow : Row (wr.alloc (.cells #[.int .i64 (gq x.parts k).want.number, .int .i64 (gq x.parts k).want.kind, .slice a2 (gq x.parts k).want.stuffs.length c2, .slice a3 (gq x.parts k).want.uses.length c3, .slice a4 (gq x.parts k).want.opens.length c4, .slice a5 (gq x.parts k).want.shuts.length c5, .bool (gq x.parts k).stopped] 61)) wr.heap.size 61 (partL (gq x.parts k) a2 a3 a4 a5 c2 c3 c4 c5) := Row.new wr _ _
    have hbela := hbel.trans (hba.mono hbel.size)
    go_wp2
    go_loopw [6, 18] (fun _ i wv => ∃ (j : Nat) (w2 : World), w2 = wv ∧ j ≤ (gq x.parts k).want.uses.length ∧ i = .int .i64 j ∧ allTo j (fun i => useOkB (spotAtI x.spots (spotI x.spots (gu (gq x.parts k).want.uses i).name)) (gq x.parts k).want (gu (gq x.parts k).want.uses i)) = true ∧ Below (wr.alloc (.cells #[.int .i64 (gq x.parts k).want.number, .int .i64 (gq x.parts k).want.kind, .slice a2 (gq x.parts k).want.stuffs.length c2, .slice a3 (gq x.parts k).want.uses.length c3, .slice a4 (gq x.parts k).want.opens.length c4, .slice a5 (gq x.parts k).want.shuts.length c5, .bool (gq x.parts k).stopped] 61)).heap.size (wr.alloc (.cells #[.int .i64 (gq x.parts k).want.number, .int .i64 (gq x.parts k).want.kind, .slice a2 (gq x.parts k).want.stuffs.length c2, .slice a3 (gq x.parts k).want.uses.length c3, .slice a4 (gq x.parts k).want.opens.length c4, .slice a5 (gq x.parts k).want.shuts.length c5, .bool (gq x.parts k).stopped] 61)) w2) (fun _ i _ => (gq x.parts k).want.uses.length - (intOf i).toNat)
    case atStart => exact ⟨0, _, rfl, Nat.zero_le _, rfl, rfl, Below.refl _ _⟩
    case round =>
      obtain ⟨j, w2, rfl, hj, rfl, hallj, hb2⟩ := hrel
      have hbel2 := hbela.trans (hb2.mono hbela.size)
      have hbw2 := below_over hbel2
      have hbr2 := hba.trans (hb2.mono hba.size)
      have bk2 := bk.later hbr2
      have prow2 := prow.later hb2
      by_cases hjk : j < (gq x.parts k).want.uses.length
      case neg =>
        have hjj : j = (gq x.parts k).want.uses.length := by omega
        have hgood : placesAt x k = true := by unfold placesAt; rw [← hjj]; exact hallj
        have HG : Hid (placesAt x k = true) := hgood
        clear hgood hjj
        go_wp2
        go_roundw
        case rel => exact ⟨k + 1, by omega, by go_num, allTo_succ hall HG.out, hbel2⟩
        case measure => simp [intOf]; omega
      obtain ⟨b', o', ha', hb', hd0, hd1, hd2⟩ := (hst.later hbr2).uses.at hjk
      obtain ⟨i, hi, hspot⟩ := knowsB_spot hkn hjk
      obtain ⟨bs, os, m, c, has, hbs, he0, he1, he2, he3, he4, hss⟩ := (hx.later hbw2).spots.at hi
      have ham := wantB_amount hwb hjk
      have hls := hlf _ (gp_mem hi)
      have hfs := (fx.spots.names _ (gp_mem hi)).2
      subst ha' has
      have hba3 : Below w2.heap.size w2 (w2.alloc (.cells #[.string (gu (gq x.parts k).want.uses j).name, .int .i64 (gu (gq x.parts k).want.uses j).role, .int .i64 (gu (gq x.parts k).want.uses j).amount] 101)) := (Below.refl _ _).alloc (Nat.le_refl _) _
      have urow := Row.new w2 101 [.string (gu (gq x.parts k).want.uses j).name, .int .i64 (gu (gq x.parts k).want.uses j).role, .int .i64 (gu (gq x.parts k).want.uses j).amount]
      have hbw3 := hbw2.trans (hba3.mono hbw2.size)
      have bk3 := bk2.later hba3
      have prow3 := prow2.later hba3
      have hs3 := hss.later hba3
      generalize hw3 : w2.alloc (.cells #[.string (gu (gq x.parts k).want.uses j).name, .int .i64 (gu (gq x.parts k).want.uses j).role, .int .i64 (gu (gq x.parts k).want.uses j).amount] 101) = w3 at hba3 hbw3 bk3 prow3 hs3
      have urow3 : Row w3 w2.heap.size 101 [.string (gu (gq x.parts k).want.uses j).name, .int .i64 (gu (gq x.parts k).want.uses j).role, .int .i64 (gu (gq x.parts k).want.uses j).amount] := by rw [← hw3]; exact urow
      have HW3 : Hid (w2.alloc (.cells #[.string (gu (gq x.parts k).want.uses j).name, .int .i64 (gu (gq x.parts k).want.uses j).role, .int .i64 (gu (gq x.parts k).want.uses j).amount] 101) = w3) := hw3
      clear hw3 urow
      have r1 := cell_regrown (bk3.cell 1 rfl)
      have p0 := cell_regrown (prow3.cell 0 rfl)
      have p1 := cell_regrown (prow3.cell 1 rfl)
      have p2 := cell_regrown (prow3.cell 2 rfl)
      have p3 := cell_regrown (prow3.cell 3 rfl)
      have p4 := cell_regrown (prow3.cell 4 rfl)
      have p5 := cell_regrown (prow3.cell 5 rfl)
      have u0 := cell_regrown (urow3.cell 0 rfl)
      have u1 := cell_regrown (urow3.cell 1 rfl)
      have u2 := cell_regrown (urow3.cell 2 rfl)
      have s0 := cell_regrown (cell_later hba3 he0)
      have s1 := cell_regrown (cell_later hba3 he1)
      have s2 := cell_regrown (cell_later hba3 he2)
      have s3 := cell_regrown (cell_later hba3 he3)
      have s4 := cell_regrown (cell_later hba3 he4)
      have hcall1 := fun d os' => Calls.regrown_of (w := w3) (spotAt_any (some ⟨bs, os, none⟩) cp x.spots (gu (gq x.parts k).want.uses j).name (grow (redrawn w3 d) os') (hx.later (hbw3.trans ((below_regrown w3 d os').mono hbw3.size))).spots fx.spots.len)
      have hcall2 := fun d os' => Calls.regrown_of (w := w3) (placeOk_any (gp x.spots i) m c (gq x.parts k).want a2 (some ⟨b', o', none⟩) a4 a5 c2 c3 c4 c5 (gu (gq x.parts k).want.uses j) (grow (redrawn w3 d) os') (hs3.later (below_regrown w3 d os')) (hst.later ((hbr2.trans (hba3.mono hbr2.size)).trans ((below_regrown w3 d os').mono (hbr2.trans (hba3.mono hbr2.size)).size))).stuffs hfs.1 hfp.stuffs.1 hls.1 hls.2 ham.1 ham.2)
      rw [hspot] at hcall1
      unfold spotV wantW useV at hcall2
      have hi2 : (i : Int) < x.spots.length := by omega
      have hval : useOkB (spotAtI x.spots (spotI x.spots (gu (gq x.parts k).want.uses j).name)) (gq x.parts k).want (gu (gq x.parts k).want.uses j) = useOkB (gp x.spots i) (gq x.parts k).want (gu (gq x.parts k).want.uses j) := by rw [hspot]; rfl
      have HV : Hid (useOkB (spotAtI x.spots (spotI x.spots (gu (gq x.parts k).want.uses j).name)) (gq x.parts k).want (gu (gq x.parts k).want.uses j) = useOkB (gp x.spots i) (gq x.parts k).want (gu (gq x.parts k).want.uses j)) := hval
      clear hval hspot ham hls hfs
      go_wp2
      rw [HW3.out]
      clear hc0 hc1 hc2 hc3 hc4 hc5 hc6 hd0 hd1 hd2 he0 he1 he2 he3 he4
      refine wp_region_quiet_below (by kernel_rfl) (by kernel_rfl) ?_
      repeat (first | go_big_quiet_step (first | with_reducible exact hcall1 _ _ | with_reducible exact hcall2 _ _) | quiet_step (first | with_reducible exact hcall1 _ _ | with_reducible exact hcall2 _ _))
      refine wpQuiet_nil ?_
      intro w4 hw'
      obtain ⟨⟨dq, osq⟩, hw''⟩ := hw'
      have hb4 : Below w3.heap.size w3 w4 := hw'' ▸ below_regrown w3 dq osq
      have hb5 := hb2.trans ((hba3.trans (hb4.mono hba3.size)).mono hb2.size)
      clear hw'' hcall1 hcall2 r1 p0 p1 p2 p3 p4 p5 u0 u1 u2 s0 s1 s2 s3 s4
      cases hq : useOkB (gp x.spots i) (gq x.parts k).want (gu (gq x.parts k).want.uses j) with
      | false =>
        go_wp2
        go_ret
        refine ⟨ret_bool ?_, below_over (hbela.trans (hb5.mono hbela.size))⟩
        refine (allTo_false k hlt ?_).symm
        exact allTo_false j hjk (by rw [HV.out]; exact hq)
      | true =>
        go_wp2
        go_roundw
        case rel => exact ⟨j + 1, _, rfl, by omega, by go_num, allTo_succ hallj (by rw [HV.out]; exact hq), hb5⟩
        case measure => simp [intOf]; omega

end Go.Proofs.YtfmhkicncgccjaaGreat
