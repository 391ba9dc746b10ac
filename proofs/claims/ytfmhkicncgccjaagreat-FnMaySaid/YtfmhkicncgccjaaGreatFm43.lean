/- Joined: CdS5, GpE. -/
import Derived.Test.YtfmhkicncgccjaaGreatFm37
import Derived.Test.YtfmhkicncgccjaaGreatFm42
import Derived.Test.YtfmhkicncgccjaaGreatFm34
import Derived.Test.YtfmhkicncgccjaaGreatFm23
/- What the specification's ClaimCode answers. -/
namespace Go.Proofs.YtfmhkicncgccjaaGreat
open Go.RowKit Go.Sort
set_option linter.unusedSimpArgs false
set_option linter.unusedVariables false

/-- What an ok book has. -/
theorem bookB_parts {x : Book} (h : bookB x = true) : partsOkB x = true ∧ allTo x.spots.length (spotAtB x) = true ∧ foesOkB x.foes = true := by
 unfold bookB at h
 simp only [Bool.and_eq_true] at h
 exact ⟨h.2, h.1.2, h.1.1.1.1.1⟩
theorem bookB_most {x : Book} (h : bookB x = true) : MostFit x := by
 intro s hs
 obtain ⟨j, hj, rfl⟩ := List.getElem_of_mem hs
 have := allTo_iff.1 (bookB_parts h).2.1 j hj
 unfold spotAtB at this
 rw [gp_lt hj] at this
 simp only [Bool.and_eq_true] at this
 have h2 := this.1
 unfold spotOkB inB at h2
 simp only [Bool.and_eq_true, decide_eq_true_eq] at h2
 omega
theorem bookB_mays {x : Book} (h : bookB x = true) : ∀ s ∈ x.spots, s.may.length ≤ 8 := by
 intro s hs
 obtain ⟨j, hj, rfl⟩ := List.getElem_of_mem hs
 have := allTo_iff.1 (bookB_parts h).2.1 j hj
 unfold spotAtB at this
 rw [gp_lt hj] at this
 simp only [Bool.and_eq_true] at this
 have h2 := this.1
 unfold spotOkB at h2
 simp only [Bool.and_eq_true] at h2
 have h3 : namesB x.spots[j].may 8 = true := h2.1.2
 have := namesB_len h3
 omega
theorem bookB_uses {x : Book} (h : bookB x = true) {k : Nat} (hk : k < x.parts.length) : (gq x.parts k).want.uses.length ≤ 8 := by
 have h1 := (bookB_parts h).1
 unfold partsOkB at h1
 rw [Bool.and_eq_true] at h1
 exact partOk_uses (partAt_ok (allTo_iff.1 h1.2 k hk))
theorem wantB_parts {y : Want} (h : wantB y = true) : y.stuffs.length ≤ 8 ∧ y.uses.length ≤ 8 := by
 unfold wantB at h
 simp only [Bool.and_eq_true] at h
 have h1 := usesS_len h.1.1.1.1.1.1.1.2
 have h2 : namesB y.stuffs 8 = true := h.1.2
 have := namesB_len h2
 omega

theorem codeC_book {x : Book} {y : Want} (h : bookB x = false) : codeC x y = 1 := by unfold codeC; rw [h]; rfl
theorem codeC_want {x : Book} {y : Want} (h : bookB x = true) (hw : (wantB y && knowsB x y) = false) : codeC x y = 2 := by unfold codeC; rw [h, hw]; rfl
theorem codeC_number {x : Book} {y : Want} (h : bookB x = true) (hw : wantB y = true) (hk : knowsB x y = true) : codeC x y = numberC x y := by unfold codeC; rw [h, hw, hk]; rfl
theorem numberC_at {x : Book} {y : Want} {j : Nat} (h : partI x.parts y.number = (j : Int)) : numberC x y = if sameB (gq x.parts j).want y then 0 else 3 := by
 unfold numberC; rw [h]; simp
theorem numberC_none {x : Book} {y : Want} (h : partI x.parts y.number = -1) : numberC x y = if y.number ≤ x.seen then 4 else laterC x y := by
 unfold numberC; rw [h]; simp

set_option maxRecDepth 100000 in
set_option maxHeartbeats 8000000 in
theorem specCode_any (x : Book) (af ap av aq : Option Addr) (cf cp cv cq : Nat) (y : Want) (a2 a3 a4 a5 : Option Addr) (c2 c3 c4 c5 : Nat) (w : World) (hx : BookIn w x af ap av aq) (hy : WantIn w y a2 a3 a4 a5) (fx : BookFit x) (fy : WantFit y) :
 Calls Tryz.prog 164 #[bookV x af ap av aq cf cp cv cq, wantW y a2 a3 a4 a5 c2 c3 c4 c5] w fun e w' => e = .returned (.int .i64 (codeC x y)) ∧ Below w.heap.size w w' := by
 have hlp := fx.parts.len
 unfold maxLen at hlp
 unfold bookV wantW
 have b0 : Below w.heap.size w ((w.alloc (.cells (bookL x af ap av aq cf cp cv cq).toArray 28)).alloc (.cells (wantL y a2 a3 a4 a5 c2 c3 c4 c5).toArray 38)) := ((Below.refl _ _).alloc (Nat.le_refl _) _).alloc (by simp) _
 have i0 : Row ((w.alloc (.cells (bookL x af ap av aq cf cp cv cq).toArray 28)).alloc (.cells (wantL y a2 a3 a4 a5 c2 c3 c4 c5).toArray 38)) w.heap.size 28 (bookL x af ap av aq cf cp cv cq) := (Row.new w 28 (bookL x af ap av aq cf cp cv cq)).alloc _
 have o0 : Row ((w.alloc (.cells (bookL x af ap av aq cf cp cv cq).toArray 28)).alloc (.cells (wantL y a2 a3 a4 a5 c2 c3 c4 c5).toArray 38)) (w.heap.size + 1) 38 (wantL y a2 a3 a4 a5 c2 c3 c4 c5) := by
  have := Row.new (w.alloc (.cells (bookL x af ap av aq cf cp cv cq).toArray 28)) 38 (wantL y a2 a3 a4 a5 c2 c3 c4 c5)
  simpa using this
 go_enter Tryz.func164, Tryz.ntmps164
 go_wp2_with fail
 refine (specBookOk_any x af ap av aq cf cp cv cq _ (hx.later b0) fx).mono ?_
 rintro e w1 ⟨rfl, hb⟩
 have b1 := b0.trans (hb.mono b0.size)
 have i1 := i0.later hb
 have o1 := o0.later hb
 clear b0 i0 o0 hb
 cases hbk : bookB x with
 | false =>
  go_wp2
  go_ret
  exact ⟨ret_int (codeC_book hbk).symm, b1⟩
 | true =>
 have z0 := o1.cell 0 rfl
 have z1 := o1.cell 1 rfl
 have z2 := o1.cell 2 rfl
 have z3 := o1.cell 3 rfl
 have z4 := o1.cell 4 rfl
 have z5 := o1.cell 5 rfl
 go_wp2_with fail
 refine (specWantOk_any y a2 a3 a4 a5 c2 c3 c4 c5 _ (hy.later b1) fy).mono ?_
 rintro e w2 ⟨rfl, hb⟩
 have b2 := b1.trans (hb.mono b1.size)
 have i2 := i1.later hb
 have o2 := o1.later hb
 clear b1 i1 o1 hb
 clear z0 z1 z2 z3 z4 z5
 cases hwn : wantB y with
 | false =>
  go_wp2
  go_ret
  exact ⟨ret_int (codeC_want hbk (by rw [hwn]; rfl)).symm, b2⟩
 | true =>
 have y0 := i2.cell 0 rfl
 have y1 := i2.cell 1 rfl
 have y2 := i2.cell 2 rfl
 have y3 := i2.cell 3 rfl
 have y4 := i2.cell 4 rfl
 have z0 := o2.cell 0 rfl
 have z1 := o2.cell 1 rfl
 have z2 := o2.cell 2 rfl
 have z3 := o2.cell 3 rfl
 have z4 := o2.cell 4 rfl
 have z5 := o2.cell 5 rfl
 go_wp2_with fail
 refine (l2Knows_any x af ap av aq cf cp cv cq y a2 a3 a4 a5 c2 c3 c4 c5 _ (hx.later b2) (hy.later b2) fx fy).mono ?_
 rintro e w3 ⟨rfl, hb⟩
 have b3 := b2.trans (hb.mono b2.size)
 have i3 := i2.later hb
 have o3 := o2.later hb
 clear b2 i2 o2 hb
 clear y0 y1 y2 y3 y4 z0 z1 z2 z3 z4 z5
 cases hkn : knowsB x y with
 | false =>
  go_wp2
  go_ret
  exact ⟨ret_int (codeC_want hbk (by rw [hkn, Bool.and_false])).symm, b3⟩
 | true =>
 have HC : Hid (codeC x y = numberC x y) := codeC_number hbk hwn hkn
 have y0 := i3.cell 0 rfl
 have y1 := i3.cell 1 rfl
 have y2 := i3.cell 2 rfl
 have y3 := i3.cell 3 rfl
 have y4 := i3.cell 4 rfl
 have z0 := o3.cell 0 rfl
 go_wp2_with fail
 refine (l2Part_any x af ap av aq cf cp cv cq y.number _ (hx.later b3).parts fx.parts.len).mono ?_
 rintro e w4 ⟨rfl, hb⟩
 have b4 := b3.trans (hb.mono b3.size)
 have i4 := i3.later hb
 have o4 := o3.later hb
 clear b3 i3 o3 hb
 clear y0 y1 y2 y3 y4 z0
 rcases partI_cases x.parts y.number with ⟨hpn, -⟩ | ⟨j, hj, hpj, -, -⟩
 case inr =>
  have HP : Hid (codeC x y = if sameB (gq x.parts j).want y then 0 else 3) := HC.out.trans (numberC_at hpj)
  rw [hpj]
  obtain ⟨b, o, e2, e3, e4, e5, d2, d3, d4, d5, ha, hb, hc0, hc1, hc2, hc3, hc4, hc5, hc6, hst⟩ := (hx.later b4).parts.at hj
  have hfp := fx.parts.wants _ (gq_mem hj)
  subst ha
  have r3 := cell_regrown (i4.cell 3 rfl)
  have s0 := cell_regrown (o4.cell 0 rfl)
  have s1 := cell_regrown (o4.cell 1 rfl)
  have s2 := cell_regrown (o4.cell 2 rfl)
  have s3 := cell_regrown (o4.cell 3 rfl)
  have s4 := cell_regrown (o4.cell 4 rfl)
  have s5 := cell_regrown (o4.cell 5 rfl)
  have t0 := cell_regrown hc0
  have t1 := cell_regrown hc1
  have t2 := cell_regrown hc2
  have t3 := cell_regrown hc3
  have t4 := cell_regrown hc4
  have t5 := cell_regrown hc5
  have hcall := fun d os => Calls.regrown_of (w := w4) (l1Same_any (gq x.parts j).want y e2 e3 e4 e5 d2 d3 d4 d5 a2 a3 a4 a5 c2 c3 c4 c5 (grow (redrawn w4 d) os) (hst.later (below_regrown w4 d os)) (hy.later (b4.trans ((below_regrown w4 d os).mono b4.size))) hfp)
  unfold wantW at hcall
  have hj2 : (j : Int) < x.parts.length := by omega
  have hj0 : (0 : Int) ≤ j := by omega
  clear hc0 hc1 hc2 hc3 hc4 hc5 hc6 i4 o4
  go_wp2
  refine wp_region_quiet_below (by kernel_rfl) (by kernel_rfl) ?_
  repeat (quiet_step (exact hcall _ _))
  refine wpQuiet_nil ?_
  intro w5 hw'
  obtain ⟨⟨dq, osq⟩, hw''⟩ := hw'
  have b5 := b4.trans ((hw'' ▸ below_regrown w4 dq osq).mono b4.size)
  clear hw'' hcall r3 s0 s1 s2 s3 s4 s5 t0 t1 t2 t3 t4 t5
  cases hq : sameB (gq x.parts j).want y with
  | true =>
   go_wp2
   go_ret
   exact ⟨ret_int (by rw [HP.out, hq]; rfl), b5⟩
  | false =>
   go_wp2
   go_ret
   exact ⟨ret_int (by rw [HP.out, hq]; rfl), b5⟩
 case inl =>
 have HN : Hid (codeC x y = if y.number ≤ x.seen then 4 else laterC x y) := HC.out.trans (numberC_none hpn)
 rw [hpn]
 have z0 := o4.cell 0 rfl
 have y4 := i4.cell 4 rfl
 have y3 := i4.cell 3 rfl
 by_cases hse : y.number ≤ x.seen
 · go_wp2
   go_ret
   exact ⟨ret_int (by rw [HN.out, if_pos hse]), b4⟩
 have HL : Hid (codeC x y = laterC x y) := HN.out.trans (if_neg hse)
 by_cases hmp : (6 : Int) ≤ x.parts.length
 · go_wp2
   go_ret
   exact ⟨ret_int (by rw [HL.out]; unfold laterC; rw [if_pos (by omega)]), b4⟩
 have hmp' : ¬ 6 ≤ x.parts.length := by omega
 have HLL : Hid (codeC x y = if usedByB x y then 6 else if crossedB x y then 7 else if stuffsC x y = 0 then amountsC x y else stuffsC x y) := HL.out.trans (by unfold laterC; rw [if_neg hmp'])
 have hmf := bookB_most hbk
 have hms := bookB_mays hbk
 have hwp := wantB_parts hwn
 clear hmp'
 go_wp2
 clear z0 y3 y4 hmp hse
 go_loopw [6] (fun i wr => ∃ (k : Nat), k ≤ x.parts.length ∧ i = .int .i64 k ∧ allTo k (fun i => !shareB (usesN y) (usesN (gq x.parts i).want)) = true ∧ Below w4.heap.size w4 wr) (fun i _ => x.parts.length - (intOf i).toNat)
 case atStart => exact ⟨0, Nat.zero_le _, rfl, rfl, Below.refl _ _⟩
 case round wr =>
  obtain ⟨k, hk, rfl, hall, hbel⟩ := hrel
  have hbw := b4.trans (hbel.mono b4.size)
  have i5 := i4.later hbel
  have o5 := o4.later hbel
  have y3 := i5.cell 3 rfl
  by_cases hlt : k < x.parts.length
  · obtain ⟨b, o, e2, e3, e4, e5, d2, d3, d4, d5, ha, hb, hc0, hc1, hc2, hc3, hc4, hc5, -, hst⟩ := (hx.later hbw).parts.at hlt
    have hfp := fx.parts.wants _ (gq_mem hlt)
    have hu8 := bookB_uses hbk hlt
    subst ha
    have hcW : ∀ W', Below wr.heap.size wr W' → Calls Tryz.prog 87 #[.agg #[.int .i64 y.number, .int .i64 y.kind, .slice a2 y.stuffs.length c2, .slice a3 y.uses.length c3, .slice a4 y.opens.length c4, .slice a5 y.shuts.length c5]] W' fun e w' => (∃ a cap, e = .returned (.slice a (usesN y).length cap) ∧ StrsAt w' a (usesN y)) ∧ Below wr.heap.size wr w' ∧ wr.heap.size ≤ w'.heap.size ∧ Below W'.heap.size W' w' := fun W' hb' =>
     (l2Uses_any y a2 a3 a4 a5 c2 c3 c4 c5 W' (hy.later (hbw.trans (hb'.mono hbw.size))).uses hwp.2).mono fun _ _ h => ⟨h.1, hb'.trans (h.2.mono hb'.size), Nat.le_trans hb'.size h.2.size, h.2⟩
    have hcP : ∀ W', Below wr.heap.size wr W' → Calls Tryz.prog 87 #[.agg #[.int .i64 (gq x.parts k).want.number, .int .i64 (gq x.parts k).want.kind, .slice e2 (gq x.parts k).want.stuffs.length d2, .slice e3 (gq x.parts k).want.uses.length d3, .slice e4 (gq x.parts k).want.opens.length d4, .slice e5 (gq x.parts k).want.shuts.length d5]] W' fun e w' => (∃ a cap, e = .returned (.slice a (usesN (gq x.parts k).want).length cap) ∧ StrsAt w' a (usesN (gq x.parts k).want)) ∧ Below wr.heap.size wr w' ∧ wr.heap.size ≤ w'.heap.size ∧ Below W'.heap.size W' w' := fun W' hb' =>
     (l2Uses_any (gq x.parts k).want e2 e3 e4 e5 d2 d3 d4 d5 W' (hst.later hb').uses hu8).mono fun _ _ h => ⟨h.1, hb'.trans (h.2.mono hb'.size), Nat.le_trans hb'.size h.2.size, h.2⟩
    have hn1 : (usesN y).length ≤ maxLen := by rw [usesN_len]; unfold maxLen; omega
    have hn2 : (usesN (gq x.parts k).want).length ≤ maxLen := by rw [usesN_len]; unfold maxLen; omega
    have hlt2 : (k : Int) < x.parts.length := by omega
    have hk0 : (0 : Int) ≤ k := by omega
    have y0 := o5.cell 0 rfl
    have y1 := o5.cell 1 rfl
    have y2 := o5.cell 2 rfl
    have y4 := o5.cell 3 rfl
    have y5 := o5.cell 4 rfl
    have y6 := o5.cell 5 rfl
    have hS : ∀ w', Below wr.heap.size wr w' → (w'.cell? ⟨w.heap.size, 3, none⟩ = some (.slice (some ⟨b, o, none⟩) x.parts.length cq) ∧ w'.cell? ⟨w.heap.size + 1, 0, none⟩ = some (.int .i64 y.number) ∧ w'.cell? ⟨w.heap.size + 1, 1, none⟩ = some (.int .i64 y.kind) ∧ w'.cell? ⟨w.heap.size + 1, 2, none⟩ = some (.slice a2 y.stuffs.length c2) ∧ w'.cell? ⟨w.heap.size + 1, 3, none⟩ = some (.slice a3 y.uses.length c3) ∧ w'.cell? ⟨w.heap.size + 1, 4, none⟩ = some (.slice a4 y.opens.length c4) ∧ w'.cell? ⟨w.heap.size + 1, 5, none⟩ = some (.slice a5 y.shuts.length c5) ∧
     w'.cell? ⟨b, o + k * 7, none⟩ = some (.int .i64 (gq x.parts k).want.number) ∧ w'.cell? ⟨b, o + k * 7 + 1, none⟩ = some (.int .i64 (gq x.parts k).want.kind) ∧ w'.cell? ⟨b, o + k * 7 + 2, none⟩ = some (.slice e2 (gq x.parts k).want.stuffs.length d2) ∧ w'.cell? ⟨b, o + k * 7 + 3, none⟩ = some (.slice e3 (gq x.parts k).want.uses.length d3) ∧ w'.cell? ⟨b, o + k * 7 + 4, none⟩ = some (.slice e4 (gq x.parts k).want.opens.length d4) ∧ w'.cell? ⟨b, o + k * 7 + 5, none⟩ = some (.slice e5 (gq x.parts k).want.shuts.length d5) ∧ Below wr.heap.size wr w' ∧ wr.heap.size ≤ w'.heap.size) := fun w' hb' =>
     ⟨cell_later hb' y3, cell_later hb' y0, cell_later hb' y1, cell_later hb' y2, cell_later hb' y4, cell_later hb' y5, cell_later hb' y6, cell_later hb' hc0, cell_later hb' hc1, cell_later hb' hc2, cell_later hb' hc3, cell_later hb' hc4, cell_later hb' hc5, hb', hb'.size⟩
    clear i5 o5
    go_wp2_with fail
    go_region_held3 (fun w' => (w'.cell? ⟨w.heap.size, 3, none⟩ = some (.slice (some ⟨b, o, none⟩) x.parts.length cq) ∧ w'.cell? ⟨w.heap.size + 1, 0, none⟩ = some (.int .i64 y.number) ∧ w'.cell? ⟨w.heap.size + 1, 1, none⟩ = some (.int .i64 y.kind) ∧ w'.cell? ⟨w.heap.size + 1, 2, none⟩ = some (.slice a2 y.stuffs.length c2) ∧ w'.cell? ⟨w.heap.size + 1, 3, none⟩ = some (.slice a3 y.uses.length c3) ∧ w'.cell? ⟨w.heap.size + 1, 4, none⟩ = some (.slice a4 y.opens.length c4) ∧ w'.cell? ⟨w.heap.size + 1, 5, none⟩ = some (.slice a5 y.shuts.length c5) ∧
     w'.cell? ⟨b, o + k * 7, none⟩ = some (.int .i64 (gq x.parts k).want.number) ∧ w'.cell? ⟨b, o + k * 7 + 1, none⟩ = some (.int .i64 (gq x.parts k).want.kind) ∧ w'.cell? ⟨b, o + k * 7 + 2, none⟩ = some (.slice e2 (gq x.parts k).want.stuffs.length d2) ∧ w'.cell? ⟨b, o + k * 7 + 3, none⟩ = some (.slice e3 (gq x.parts k).want.uses.length d3) ∧ w'.cell? ⟨b, o + k * 7 + 4, none⟩ = some (.slice e4 (gq x.parts k).want.opens.length d4) ∧ w'.cell? ⟨b, o + k * 7 + 5, none⟩ = some (.slice e5 (gq x.parts k).want.shuts.length d5) ∧ Below wr.heap.size wr w' ∧ wr.heap.size ≤ w'.heap.size))
     ((refine hS _ ?_; repeat (first | assumption | exact Below.refl _ _ | refine Below.drew ?_)))
     (first
      | (go_at_call 87; with_reducible refine (hcP _ ?_).mono ?_; (simp [*]); rintro e w'2 ⟨⟨ad2, cap2, rfl, hs2⟩, hb2, hsz2, hlt2'⟩)
      | (go_at_call 87; with_reducible refine (hcW _ ?_).mono ?_; (simp [*]); rintro e w'1 ⟨⟨ad1, cap1, rfl, hs1⟩, hb1, hsz1, hlt1'⟩)
      | (go_at_call 86; refine (l1Share_any ad1 ad2 cap1 cap2 (usesN y) (usesN (gq x.parts k).want) _ (hs1.later (hlt2'.mono (Nat.le_refl _))) hs2 hn1 hn2).mono ?_; rintro e w'3 ⟨rfl, rfl⟩))
    have hbN := hbel.trans (hb2.mono hbel.size)
    have hbF := b4.trans (hbN.mono b4.size)
    rename_i hHeld
    clear hHeld hS hcW hcP y0 y1 y2 y3 y4 y5 y6 hc0 hc1 hc2 hc3 hc4 hc5 hs1 hs2 hb1 hsz1 hlt1' hsz2 hlt2' hb2
    cases hq : shareB (usesN y) (usesN (gq x.parts k).want) with
    | true =>
     go_wp2
     go_ret
     exact ⟨ret_int (by rw [HLL.out, show usedByB x y = true from anyTo_true k hlt hq]; rfl), hbF⟩
    | false =>
     go_wp2
     go_roundw
     case rel => exact ⟨k + 1, by omega, by go_num, allTo_succ hall (by rw [hq]; rfl), hbN⟩
     case measure => simp [intOf]; omega
  · have hkk : k = x.parts.length := by omega
    subst hkk
    have HM : Hid (codeC x y = if crossedB x y then 7 else if stuffsC x y = 0 then amountsC x y else stuffsC x y) := HLL.out.trans (by rw [show usedByB x y = false from anyTo_none hall]; rfl)
    clear hall hlt hk
    go_wp2
    go_loopw [7] (fun i wv => ∃ (k : Nat) (w6 : World), w6 = wv ∧ k ≤ x.parts.length ∧ i = .int .i64 k ∧ allTo k (fun i => !crossB y (gq x.parts i).want) = true ∧ Below wr.heap.size wr w6) (fun i _ => x.parts.length - (intOf i).toNat)
    case atStart => exact ⟨0, _, rfl, Nat.zero_le _, rfl, rfl, Below.refl _ _⟩
    case round =>
     obtain ⟨k, w6, rfl, hk, rfl, hall, hbel6⟩ := hrel
     have hbw6 := hbw.trans (hbel6.mono hbw.size)
     have i6 := i5.later hbel6
     have o6 := o5.later hbel6
     have y3 := i6.cell 3 rfl
     by_cases hlt : k < x.parts.length
     · obtain ⟨b, o, e2, e3, e4, e5, d2, d3, d4, d5, ha, hb, hc0, hc1, hc2, hc3, hc4, hc5, -, hst⟩ := (hx.later hbw6).parts.at hlt
       have hfp := fx.parts.wants _ (gq_mem hlt)
       subst ha
       have r3 := cell_regrown y3
       have s0 := cell_regrown (o6.cell 0 rfl)
       have s1 := cell_regrown (o6.cell 1 rfl)
       have s2 := cell_regrown (o6.cell 2 rfl)
       have s3 := cell_regrown (o6.cell 3 rfl)
       have s4 := cell_regrown (o6.cell 4 rfl)
       have s5 := cell_regrown (o6.cell 5 rfl)
       have t0 := cell_regrown hc0
       have t1 := cell_regrown hc1
       have t2 := cell_regrown hc2
       have t3 := cell_regrown hc3
       have t4 := cell_regrown hc4
       have t5 := cell_regrown hc5
       have hcall := fun d os => Calls.regrown_of (w := w6) (l2Crosses_any y (gq x.parts k).want a2 a3 a4 a5 c2 c3 c4 c5 e2 e3 e4 e5 d2 d3 d4 d5 (grow (redrawn w6 d) os) (hy.later (hbw6.trans ((below_regrown w6 d os).mono hbw6.size))) (hst.later (below_regrown w6 d os)) fy hfp)
       unfold wantW at hcall
       have hlt2 : (k : Int) < x.parts.length := by omega
       have hk0 : (0 : Int) ≤ k := by omega
       clear hc0 hc1 hc2 hc3 hc4 hc5 i6 o6
       go_wp2
       refine wp_region_quiet_below (by kernel_rfl) (by kernel_rfl) ?_
       repeat (quiet_step (exact hcall _ _))
       refine wpQuiet_nil ?_
       intro w7 hw'
       obtain ⟨⟨dq, osq⟩, hw''⟩ := hw'
       have hb7 := hbel6.trans ((hw'' ▸ below_regrown w6 dq osq).mono hbel6.size)
       have hbF := hbw.trans (hb7.mono hbw.size)
       clear hw'' hcall r3 s0 s1 s2 s3 s4 s5 t0 t1 t2 t3 t4 t5
       cases hq : crossB y (gq x.parts k).want with
       | true =>
        go_wp2
        go_ret
        exact ⟨ret_int (by rw [HM.out, show crossedB x y = true from anyTo_true k hlt hq]; rfl), hbF⟩
       | false =>
        go_wp2
        go_roundw
        case rel => exact ⟨k + 1, _, rfl, by omega, by go_num, allTo_succ hall (by rw [hq]; rfl), hb7⟩
        case measure => simp [intOf]; omega
     · have hkk : k = x.parts.length := by omega
       subst hkk
       have HZ : Hid (codeC x y = if stuffsC x y = 0 then amountsC x y else stuffsC x y) := HM.out.trans (by rw [show crossedB x y = false from anyTo_none hall]; rfl)
       clear hall hlt hk
       have y0 := i6.cell 0 rfl
       have y1 := i6.cell 1 rfl
       have y2 := i6.cell 2 rfl
       have y4 := i6.cell 4 rfl
       have z0 := o6.cell 0 rfl
       have z1 := o6.cell 1 rfl
       have z2 := o6.cell 2 rfl
       have z3 := o6.cell 3 rfl
       have z4 := o6.cell 4 rfl
       have z5 := o6.cell 5 rfl
       go_wp2_with fail
       refine (l3Stuffs_any x af ap av aq cf cp cv cq y a2 a3 a4 a5 c2 c3 c4 c5 _ (hx.later hbw6) (hy.later hbw6) fx fy hkn hms hwp.1).mono ?_
       rintro e w8 ⟨rfl, hb⟩
       have b8 := hbw6.trans (hb.mono hbw6.size)
       have i8 := i6.later hb
       have o8 := o6.later hb
       clear y0 y1 y2 y3 y4 z0 z1 z2 z3 z4 z5 i6 o6 hb
       generalize hsc : stuffsC x y = sc
       rw [hsc] at HZ
       clear hsc
       cases hq : sc != 0 with
       | true =>
        go_wp2
        go_ret
        exact ⟨ret_int (by rw [HZ.out, if_neg (by simpa using hq)]), b8⟩
       | false =>
        have y0 := i8.cell 0 rfl
        have y1 := i8.cell 1 rfl
        have y2 := i8.cell 2 rfl
        have y3 := i8.cell 3 rfl
        have y4 := i8.cell 4 rfl
        have z0 := o8.cell 0 rfl
        have z1 := o8.cell 1 rfl
        have z2 := o8.cell 2 rfl
        have z3 := o8.cell 3 rfl
        have z4 := o8.cell 4 rfl
        have z5 := o8.cell 5 rfl
        go_wp2_with fail
        refine (l3Amounts_any x af ap av aq cf cp cv cq y a2 a3 a4 a5 c2 c3 c4 c5 _ (hx.later b8) (hy.later b8) fx fy hmf hwn hkn).mono ?_
        rintro e w9 ⟨rfl, hb⟩
        go_wp2
        go_ret
        exact ⟨ret_int (by rw [HZ.out, if_pos (by simpa using hq)]), b8.trans (hb.mono b8.size)⟩

end Go.Proofs.YtfmhkicncgccjaaGreat

/- What the specification's ClaimGrant answers. -/
namespace Go.Proofs.YtfmhkicncgccjaaGreat
open Go.RowKit Go.Sort
set_option linter.unusedSimpArgs false
set_option linter.unusedVariables false

set_option maxRecDepth 100000 in
set_option maxHeartbeats 8000000 in
theorem specGrant_own (x : Book) (af ap av aq : Option Addr) (cf cp cv cq : Nat) (y : Want) (a2 a3 a4 a5 : Option Addr) (c2 c3 c4 c5 : Nat) (w : World) (hin : BookIn w x af ap av aq) (fx : BookFit x) (R : BookRoom x) (hiw : WantIn w y a2 a3 a4 a5) (fy : WantFit y) :
 Calls Tryz.prog 148 #[bookV x af ap av aq cf cp cv cq, wantW y a2 a3 a4 a5 c2 c3 c4 c5] w fun e w' => Gives w.heap.size (grantB x y) (codeC x y) e w' ∧ Below w.heap.size w w' := by
 unfold bookV wantW
 obtain ⟨W0, hW0⟩ : ∃ W, W = ((w.alloc (.cells #[.slice af x.foes.length cf, .slice ap x.spots.length cp, .slice av x.valves.length cv, .slice aq x.parts.length cq, .int .i64 x.seen] 28)).alloc (.cells #[.int .i64 y.number, .int .i64 y.kind, .slice a2 y.stuffs.length c2, .slice a3 y.uses.length c3, .slice a4 y.opens.length c4, .slice a5 y.shuts.length c5] 38)).alloc (.cells #[.slice none 0 0, .slice none 0 0, .slice none 0 0, .slice none 0 0, .int .i64 0] 28) := ⟨_, rfl⟩
 have b0 : Below w.heap.size w W0 := by rw [hW0]; exact (((Below.refl _ _).alloc (Nat.le_refl _) _).alloc (by simp) _).alloc (by simp; omega) _
 have i0 : Row W0 w.heap.size 28 [.slice af x.foes.length cf, .slice ap x.spots.length cp, .slice av x.valves.length cv, .slice aq x.parts.length cq, .int .i64 x.seen] := by rw [hW0]; exact ((Row.new _ _ _).alloc _).alloc _
 have n0 : Row W0 (w.heap.size + 1) 38 [.int .i64 y.number, .int .i64 y.kind, .slice a2 y.stuffs.length c2, .slice a3 y.uses.length c3, .slice a4 y.opens.length c4, .slice a5 y.shuts.length c5] := by
  rw [hW0]
  have := (Row.new (w.alloc (.cells #[.slice af x.foes.length cf, .slice ap x.spots.length cp, .slice av x.valves.length cv, .slice aq x.parts.length cq, .int .i64 x.seen] 28)) 38 [.int .i64 y.number, .int .i64 y.kind, .slice a2 y.stuffs.length c2, .slice a3 y.uses.length c3, .slice a4 y.opens.length c4, .slice a5 y.shuts.length c5]).alloc (.cells #[.slice none 0 0, .slice none 0 0, .slice none 0 0, .slice none 0 0, .int .i64 0] 28)
  simpa using this
 have z0 : Row W0 (w.heap.size + 1 + 1) 28 [.slice none 0 0, .slice none 0 0, .slice none 0 0, .slice none 0 0, .int .i64 0] := by
  rw [hW0]
  have := Row.new ((w.alloc (.cells #[.slice af x.foes.length cf, .slice ap x.spots.length cp, .slice av x.valves.length cv, .slice aq x.parts.length cq, .int .i64 x.seen] 28)).alloc (.cells #[.int .i64 y.number, .int .i64 y.kind, .slice a2 y.stuffs.length c2, .slice a3 y.uses.length c3, .slice a4 y.opens.length c4, .slice a5 y.shuts.length c5] 38)) 28 [.slice none 0 0, .slice none 0 0, .slice none 0 0, .slice none 0 0, .int .i64 0]
  simpa using this
 have sz0 : W0.heap.size = w.heap.size + 3 := by rw [hW0]; simp
 have hF : bookB x = false → codeC x y = 1 ∧ grantB x y = bookNil := fun h => ⟨by simp [codeC, h], by simp [grantB, h]⟩
 have hT : bookB x = true → (codeC x y ≠ 1 ∧ ((((2 ≤ codeC x y ∧ codeC x y ≤ 4) ∨ 0 ≤ partI x.parts y.number) ∧ codeC x y ≤ 4) ∨ (¬ ((2 ≤ codeC x y ∧ codeC x y ≤ 4) ∨ 0 ≤ partI x.parts y.number) ∧ ((codeC x y = 0 ∧ wantB y = true ∧ knowsB x y = true) ∨ 5 ≤ codeC x y))) ∧
  (((2 ≤ codeC x y ∧ codeC x y ≤ 4) ∨ 0 ≤ partI x.parts y.number) → grantB x y = x) ∧ (¬ ((2 ≤ codeC x y ∧ codeC x y ≤ 4) ∨ 0 ≤ partI x.parts y.number) → codeC x y = 0 → grantB x y = putAt (seenAt x y.number) y) ∧ (¬ ((2 ≤ codeC x y ∧ codeC x y ≤ 4) ∨ 0 ≤ partI x.parts y.number) → codeC x y ≠ 0 → grantB x y = seenAt x y.number)) := fun hB => by
  obtain ⟨hc1, hc0, hc11, hways⟩ := code_ways (y := y) hB
  refine ⟨hc1, hways, fun h => ?_, fun h h' => ?_, fun h h' => ?_⟩
  · unfold grantB; rw [hB, if_pos rfl, if_pos h]
  · unfold grantB; rw [hB, if_pos rfl, if_neg h, if_pos h']
  · unfold grantB; rw [hB, if_pos rfl, if_neg h, if_neg h']
 have hCode := specCode_any x af ap av aq cf cp cv cq y a2 a3 a4 a5 c2 c3 c4 c5 W0 (hin.later b0) (hiw.later b0) fx fy
 generalize codeC x y = code at hF hT hCode ⊢
 generalize grantB x y = res at hF hT ⊢
 go_enter Tryz.func148, Tryz.ntmps148
 go_wp2_with fail
 rw [← hW0]
 clear hW0
 refine hCode.mono ?_
 rintro e w1 ⟨rfl, hb⟩
 have b1 := b0.trans (hb.mono b0.size)
 have i1 := i0.later hb
 have n1 := n0.later hb
 have z1 := z0.later hb
 have sz1 : w.heap.size + 3 ≤ w1.heap.size := by have := hb.size; omega
 clear b0 i0 n0 z0 hb sz0 hCode
 have g0 := i1.cell 0 rfl
 have g1 := i1.cell 1 rfl
 have g2 := i1.cell 2 rfl
 have g3 := i1.cell 3 rfl
 have g4 := i1.cell 4 rfl
 cases hB : bookB x with
 | false =>
  obtain ⟨rfl, rfl⟩ := hF hB
  clear hF hT
  have r0 := z1.cell 0 rfl
  have r1 := z1.cell 1 rfl
  have r2 := z1.cell 2 rfl
  have r3 := z1.cell 3 rfl
  have r4 := z1.cell 4 rfl
  have l0 := z1.frozen 0
  have l1 := z1.frozen 1
  have l2 := z1.frozen 2
  have l3 := z1.frozen 3
  have l4 := z1.frozen 4
  go_wp2
  refine bodyPost_ret (v := .tuple #[.agg #[.slice none 0 0, .slice none 0 0, .slice none 0 0, .slice none 0 0, .int .i64 0], .int .i64 1])
   (by simp [results, Tryz.results148, go_sem, r0, r1, r2, r3, r4]) rfl ⟨?_, ?_⟩
  · exact ⟨none, none, none, none, 0, 0, 0, 0, _, _, _, _, rfl, ownBook_nil _, fun q hq => absurd hq inBk_nil⟩
  · exact ((((b1.setCell (by simp; omega) _).setCell (by simp; omega) _).setCell (by simp; omega) _).setCell (by simp; omega) _).setCell (by simp; omega) _
 | true =>
  have hc1 := (hT hB).1
  have HG : Hid _ := (hT hB).2
  clear hF hT
  have hne1b : (code == 1) = false := by simp [hc1]
  go_wp2_with fail
  refine (l2Copy_own x af ap av aq cf cp cv cq w1 (hin.later b1) R).mono ?_
  rintro e w2 ⟨⟨f0, f1, f2, f3, k0, k1, k2, k3, A1, C1, A2, C2, rfl, own, cap, hnil, lo⟩, hb⟩
  have b2 := b1.trans (hb.mono b1.size)
  have i2 := i1.later hb
  have n2 := n1.later hb
  have z2 := z1.later hb
  have sz2 : w.heap.size + 3 ≤ w2.heap.size := by have := hb.size; omega
  clear b1 i1 n1 z1 g0 g1 g2 g3 g4
  unfold bookV
  obtain ⟨W3, hW3⟩ : ∃ W, W = w2.alloc (.cells #[.slice f0 x.foes.length k0, .slice f1 x.spots.length k1, .slice f2 x.valves.length k2, .slice f3 x.parts.length k3, .int .i64 x.seen] 28) := ⟨_, rfl⟩
  have hb3 : Below w2.heap.size w2 W3 := by rw [hW3]; exact (Below.refl _ _).alloc (Nat.le_refl _) _
  have rx3 : Row W3 w2.heap.size 28 [.slice f0 x.foes.length k0, .slice f1 x.spots.length k1, .slice f2 x.valves.length k2, .slice f3 x.parts.length k3, .int .i64 x.seen] := by rw [hW3]; exact Row.new _ _ _
  have s3 : W3.heap.size = w2.heap.size + 1 := by rw [hW3]; simp
  have b3 := b2.trans (hb3.mono b2.size)
  have i3 := i2.later hb3
  have n3 := n2.later hb3
  have z3 := z2.later hb3
  have own3 := own.later hb3
  have cap3 := cap.later hb3
  have LO : Hid ((∀ q, InBk x f0 f1 f2 f3 A1 A2 q → w.heap.size + 3 ≤ q ∧ q < w2.heap.size) ∧ ∀ q, InAddr f3 q → q < w2.heap.size) := ⟨fun q hq => ⟨by have := lo q hq; omega, own.lt hq⟩, fun q hq => cap.lt hq⟩
  have LOB : Hid (∀ q, InAddr f3 q → w.heap.size + 3 ≤ q) := fun q hq => by
   by_cases h0 : x.parts.length = 0
   · rw [hnil h0] at hq; obtain ⟨_, h⟩ := hq; cases h
   · exact (LO.out.1 q (Or.inr (Or.inr (Or.inr (Or.inl ⟨h0, hq⟩))))).1
  clear b2 i2 n2 z2 hb hb3 own cap lo
  have g0 := i3.cell 0 rfl
  have g1 := i3.cell 1 rfl
  have g2 := i3.cell 2 rfl
  have g3 := i3.cell 3 rfl
  have g4 := i3.cell 4 rfl
  have m0 := n3.cell 0 rfl
  rw [hW3] at g0 g1 g2 g3 g4 m0
  go_wp2_with fail
  refine (l1In_any code 2 4 _).mono ?_
  rintro e w' ⟨rfl, rfl⟩
  have hne : w2.heap.size ≠ w.heap.size + 1 + 1 := by omega
  cases hI : inB code 2 4 with
  | true =>
   have hA : (2 ≤ code ∧ code ≤ 4) ∨ 0 ≤ partI x.parts y.number := Or.inl (by unfold inB at hI; simpa using hI)
   have HE : Hid (res = x) := HG.out.2.1 hA
   have h0 := rx3.cell 0 rfl
   have h1 := rx3.cell 1 rfl
   have h2 := rx3.cell 2 rfl
   have h3 := rx3.cell 3 rfl
   have h4 := rx3.cell 4 rfl
   have r0 := z3.cell 0 rfl
   have r1 := z3.cell 1 rfl
   have r2 := z3.cell 2 rfl
   have r3 := z3.cell 3 rfl
   have r4 := z3.cell 4 rfl
   have l0 := z3.frozen 0
   have l1 := z3.frozen 1
   have l2 := z3.frozen 2
   have l3 := z3.frozen 3
   have l4 := z3.frozen 4
   rw [hW3] at h0 h1 h2 h3 h4 r0 r1 r2 r3 r4 l0 l1 l2 l3 l4 own3 b3
   go_wp2
   refine bodyPost_ret (v := .tuple #[.agg #[.slice f0 x.foes.length k0, .slice f1 x.spots.length k1, .slice f2 x.valves.length k2, .slice f3 x.parts.length k3, .int .i64 x.seen], .int .i64 code])
    (by simp [results, Tryz.results148, go_sem, r0, r1, r2, r3, r4]) rfl ⟨?_, ?_⟩
   · rw [HE.out]
     have g : ∀ q, InBk x f0 f1 f2 f3 A1 A2 q → ¬ q = w.heap.size + 1 + 1 := fun q hq => by have := LO.out.1 q hq; omega
     exact ⟨f0, f1, f2, f3, k0, k1, k2, k3, A1, C1, A2, C2, rfl, ((((own3.only (Only.cell _ ⟨w.heap.size + 1 + 1, 0, none⟩ _) g).only (Only.cell _ ⟨w.heap.size + 1 + 1, 1, none⟩ _) g).only (Only.cell _ ⟨w.heap.size + 1 + 1, 2, none⟩ _) g).only (Only.cell _ ⟨w.heap.size + 1 + 1, 3, none⟩ _) g).only (Only.cell _ ⟨w.heap.size + 1 + 1, 4, none⟩ _) g, fun q hq => by have := LO.out.1 q hq; omega⟩
   · exact ((((b3.setCell (by simp; omega) _).setCell (by simp; omega) _).setCell (by simp; omega) _).setCell (by simp; omega) _).setCell (by simp; omega) _
  | false =>
   go_wp2_with fail
   rw [← hW3]
   clear hW3 g0 g1 g2 g3 g4 m0
   refine (l2Part_any x af ap av aq cf cp cv cq y.number W3 (hin.later b3).parts fx.parts.len).mono ?_
   rintro e w4 ⟨rfl, hb⟩
   have b4 := b3.trans (hb.mono b3.size)
   have n4 := n3.later hb
   have z4 := z3.later hb
   have rx4 := rx3.later hb
   have own4 := own3.later hb
   have cap4 := cap3.later hb
   have s4 : w2.heap.size < w4.heap.size := rx4.lt
   clear b3 i3 n3 z3 rx3 own3 cap3 hb s3
   rcases partI_cases x.parts y.number with ⟨hp, -⟩ | ⟨j, hj, hp, -⟩
   case inr =>
    have hA : (2 ≤ code ∧ code ≤ 4) ∨ 0 ≤ partI x.parts y.number := Or.inr (by omega)
    have HE : Hid (res = x) := HG.out.2.1 hA
    rw [hp]
    clear hp hA
    have hj0 : (0 : Int) ≤ j := by omega
    have h0 := rx4.cell 0 rfl
    have h1 := rx4.cell 1 rfl
    have h2 := rx4.cell 2 rfl
    have h3 := rx4.cell 3 rfl
    have h4 := rx4.cell 4 rfl
    have r0 := z4.cell 0 rfl
    have r1 := z4.cell 1 rfl
    have r2 := z4.cell 2 rfl
    have r3 := z4.cell 3 rfl
    have r4 := z4.cell 4 rfl
    have l0 := z4.frozen 0
    have l1 := z4.frozen 1
    have l2 := z4.frozen 2
    have l3 := z4.frozen 3
    have l4 := z4.frozen 4
    go_wp2
    refine bodyPost_ret (v := .tuple #[.agg #[.slice f0 x.foes.length k0, .slice f1 x.spots.length k1, .slice f2 x.valves.length k2, .slice f3 x.parts.length k3, .int .i64 x.seen], .int .i64 code])
     (by simp [results, Tryz.results148, go_sem, r0, r1, r2, r3, r4]) rfl ⟨?_, ?_⟩
    · rw [HE.out]
      have g : ∀ q, InBk x f0 f1 f2 f3 A1 A2 q → ¬ q = w.heap.size + 1 + 1 := fun q hq => by have := LO.out.1 q hq; omega
      exact ⟨f0, f1, f2, f3, k0, k1, k2, k3, A1, C1, A2, C2, rfl, ((((own4.only (Only.cell _ ⟨w.heap.size + 1 + 1, 0, none⟩ _) g).only (Only.cell _ ⟨w.heap.size + 1 + 1, 1, none⟩ _) g).only (Only.cell _ ⟨w.heap.size + 1 + 1, 2, none⟩ _) g).only (Only.cell _ ⟨w.heap.size + 1 + 1, 3, none⟩ _) g).only (Only.cell _ ⟨w.heap.size + 1 + 1, 4, none⟩ _) g, fun q hq => by have := LO.out.1 q hq; omega⟩
    · exact ((((b4.setCell (by simp; omega) _).setCell (by simp; omega) _).setCell (by simp; omega) _).setCell (by simp; omega) _).setCell (by simp; omega) _
   case inl =>
    have hnA : ¬ ((2 ≤ code ∧ code ≤ 4) ∨ 0 ≤ partI x.parts y.number) := by
     rintro (h | h)
     · unfold inB at hI; simp at hI; omega
     · omega
    rw [hp]
    clear hp
    have m0 := n4.cell 0 rfl
    have x0 := rx4.cell 0 rfl
    have x1 := rx4.cell 1 rfl
    have x2 := rx4.cell 2 rfl
    have x3 := rx4.cell 3 rfl
    have x4 := rx4.cell 4 rfl
    have m1 := n4.cell 1 rfl
    have m2 := n4.cell 2 rfl
    have m3 := n4.cell 3 rfl
    have m4 := n4.cell 4 rfl
    have m5 := n4.cell 5 rfl
    have x4f := rx4.frozen 4
    have hne1 : w2.heap.size ≠ w.heap.size + 1 := by omega
    have own5 := own4.only (Only.cell w4 ⟨w2.heap.size, 4, none⟩ (.int .i64 y.number)) (fun q hq e => by have := LO.out.1 q hq; simp only at e; omega)
    have cap5 := cap4.only (Only.cell w4 ⟨w2.heap.size, 4, none⟩ (.int .i64 y.number)) (fun q hq e => by have := LO.out.2 q hq; simp only at e; omega)
    have n5 := n4.other (a := ⟨w2.heap.size, 4, none⟩) (fun h => hne1 h.symm) (.int .i64 y.number)
    have z5 := z4.other (a := ⟨w2.heap.size, 4, none⟩) (fun h => hne h.symm) (.int .i64 y.number)
    have rx5 := rx4.set 4 (.int .i64 y.number)
    have b5 := b4.setCell (p := ⟨w2.heap.size, 4, none⟩) (by simp; omega) (.int .i64 y.number)
    have s5 : w2.heap.size < (w4.setCell ⟨w2.heap.size, 4, none⟩ (.int .i64 y.number)).heap.size := rx5.lt
    obtain ⟨w5, hw5⟩ : ∃ W, W = w4.setCell ⟨w2.heap.size, 4, none⟩ (.int .i64 y.number) := ⟨_, rfl⟩
    by_cases hz : code = 0
    · subst hz
      have hwk : wantB y = true ∧ knowsB x y = true := by
       rcases HG.out.1 with ⟨h, -⟩ | ⟨-, h | h⟩
       · exact absurd h hnA
       · exact h.2
       · omega
      have HE : Hid (res = putAt (seenAt x y.number) y) := HG.out.2.2.1 hnA rfl
      have HA : Hid _ := And.intro own5 (And.intro cap5 (And.intro n5 (And.intro z5 (And.intro rx5 (And.intro b5 s5)))))
      clear own5 cap5 n5 z5 rx5 b5 s5 own4 cap4
      go_wp2_with fail
      rw [← hw5]
      obtain ⟨own5, cap5, n5, z5, rx5, b5, s5⟩ := HA.out
      rw [← hw5] at own5 cap5 n5 z5 rx5 b5 s5
      clear HA hw5 x0 x1 x2 x3 x4 x4f m0 m1 m2 m3 m4 m5
      have hsm := bookB_small hB
      have hput := l3Put_own (seenAt x y.number) y f0 f1 f2 f3 k0 k1 k2 k3 A1 C1 A2 C2 a2 a3 a4 a5 c2 c3 c4 c5 (w.heap.size + 3) w5 (OwnBook.seen own5 _) cap5 (fun q hq => (LO.out.1 q hq).1) LOB.out (by omega) hnil w2.heap.size _ _ rx5 (fun h => by have := LO.out.1 _ h; omega) (fun X h => hiw.later (b5.trans (h.mono (by omega)))) hwk.1 hwk.2 (fun j hj => levels_of (x := x) hB j hj) hsm.2.1 hsm.2.2.2
      unfold bookV wantW at hput
      refine hput.mono ?_
      rintro e w6 ⟨⟨f3', k3', A', C', A2', C2', rfl, own6, lo6, rx6⟩, hb6⟩
      have b6 := b5.trans (hb6.mono (by omega))
      have z6 : Row w6 (w.heap.size + 1 + 1) 28 [.slice none 0 0, .slice none 0 0, .slice none 0 0, .slice none 0 0, .int .i64 0] := (hb6.block _ (by omega)).trans z5
      have s6 := rx6.lt
      have x0 := rx6.cell 0 rfl
      have x1 := rx6.cell 1 rfl
      have x2 := rx6.cell 2 rfl
      have x3 := rx6.cell 3 rfl
      have x4 := rx6.cell 4 rfl
      have y0 := rx6.frozen 0
      have y1 := rx6.frozen 1
      have y2 := rx6.frozen 2
      have y3 := rx6.frozen 3
      have y4 := rx6.frozen 4
      have hroom := putAt_room hB R hwk.1
      have OWN6 : Hid _ := And.intro own6 (And.intro lo6 (And.intro z6 (And.intro b6 hroom)))
      clear hput own6 lo6 rx6 hb6 own5 cap5 n5 z5 rx5 b5 s5 b6 z6 hroom
      generalize hbk0 : putAt (seenAt x y.number) y = bk0 at OWN6 HE ⊢
      go_wp2_with fail
      obtain ⟨own6, lo6, z6, b6, hroom⟩ := OWN6.out
      have g6 : ∀ q, InBk bk0 f0 f1 f2 f3' A' A2' q → ¬ q = w2.heap.size := fun q hq => (lo6 q hq).2
      have own7 := ((((own6.only (Only.cell w6 ⟨w2.heap.size, 0, none⟩ (.slice f0 bk0.foes.length k0)) g6).only (Only.cell _ ⟨w2.heap.size, 1, none⟩ (.slice f1 bk0.spots.length k1)) g6).only (Only.cell _ ⟨w2.heap.size, 2, none⟩ (.slice f2 bk0.valves.length k2)) g6).only (Only.cell _ ⟨w2.heap.size, 3, none⟩ (.slice f3' bk0.parts.length k3')) g6).only (Only.cell _ ⟨w2.heap.size, 4, none⟩ (.int .i64 bk0.seen)) g6
      have hr : ∀ i, ¬ w.heap.size + 1 + 1 = (⟨w2.heap.size, i, none⟩ : Addr).block := fun i => by simp; omega
      have z7 := ((((z6.other (hr 0) (.slice f0 bk0.foes.length k0)).other (hr 1) (.slice f1 bk0.spots.length k1)).other (hr 2) (.slice f2 bk0.valves.length k2)).other (hr 3) (.slice f3' bk0.parts.length k3')).other (hr 4) (.int .i64 bk0.seen)
      have b7 := ((((b6.setCell (p := ⟨w2.heap.size, 0, none⟩) (by simp; omega) (.slice f0 bk0.foes.length k0)).setCell (p := ⟨w2.heap.size, 1, none⟩) (by simp; omega) (.slice f1 bk0.spots.length k1)).setCell (p := ⟨w2.heap.size, 2, none⟩) (by simp; omega) (.slice f2 bk0.valves.length k2)).setCell (p := ⟨w2.heap.size, 3, none⟩) (by simp; omega) (.slice f3' bk0.parts.length k3')).setCell (p := ⟨w2.heap.size, 4, none⟩) (by simp; omega) (.int .i64 bk0.seen)
      obtain ⟨w7, hw7⟩ : ∃ W, W = ((((w6.setCell ⟨w2.heap.size, 0, none⟩ (.slice f0 bk0.foes.length k0)).setCell ⟨w2.heap.size, 1, none⟩ (.slice f1 bk0.spots.length k1)).setCell ⟨w2.heap.size, 2, none⟩ (.slice f2 bk0.valves.length k2)).setCell ⟨w2.heap.size, 3, none⟩ (.slice f3' bk0.parts.length k3')).setCell ⟨w2.heap.size, 4, none⟩ (.int .i64 bk0.seen) := ⟨_, rfl⟩
      have s7 : w.heap.size + 3 ≤ w7.heap.size := by rw [hw7]; simp only [Go.Deep.nblk_setCell]; omega
      rw [← hw7] at own7 z7 b7 ⊢
      clear hw7 x0 x1 x2 x3 x4 y0 y1 y2 y3 y4 own6 lo6 z6 b6 g6 OWN6 hbk0
      refine (l2Copy_own bk0 f0 f1 f2 f3' k0 k1 k2 k3' w7 own7.in_ hroom).mono ?_
      clear own7 hroom
      rintro e w8 ⟨⟨g0, g1, g2, g3, j0, j1, j2, j3, G1, J1, G2, J2, rfl, own8, -, -, lo8⟩, hb8⟩
      have b8 := b7.trans (hb8.mono b7.size)
      have z8 := z7.later hb8
      have s8 := hb8.size
      have LO8 : Hid (∀ q, InBk (bk0) g0 g1 g2 g3 G1 G2 q → w.heap.size + 3 ≤ q) := fun q hq => by have := lo8 q hq; omega
      clear hb8 lo8 z7 b7
      unfold bookV
      have r0 := z8.cell 0 rfl
      have r1 := z8.cell 1 rfl
      have r2 := z8.cell 2 rfl
      have r3 := z8.cell 3 rfl
      have r4 := z8.cell 4 rfl
      have l0 := z8.frozen 0
      have l1 := z8.frozen 1
      have l2 := z8.frozen 2
      have l3 := z8.frozen 3
      have l4 := z8.frozen 4
      have OWN : Hid _ := own8
      clear own8
      generalize hbk : (bk0) = bk at OWN LO8 HE ⊢
      clear hbk
      go_wp2
      refine bodyPost_ret (v := .tuple #[.agg #[.slice g0 bk.foes.length j0, .slice g1 bk.spots.length j1, .slice g2 bk.valves.length j2, .slice g3 bk.parts.length j3, .int .i64 bk.seen], .int .i64 0])
       (by simp [results, Tryz.results148, go_sem, r0, r1, r2, r3, r4]) rfl ⟨?_, ?_⟩
      · rw [HE.out]
        have g : ∀ q, InBk bk g0 g1 g2 g3 G1 G2 q → ¬ q = w.heap.size + 1 + 1 := fun q hq => by have := LO8.out q hq; omega
        exact ⟨g0, g1, g2, g3, j0, j1, j2, j3, G1, J1, G2, J2, rfl, ((((OWN.out.only (Only.cell _ ⟨w.heap.size + 1 + 1, 0, none⟩ _) g).only (Only.cell _ ⟨w.heap.size + 1 + 1, 1, none⟩ _) g).only (Only.cell _ ⟨w.heap.size + 1 + 1, 2, none⟩ _) g).only (Only.cell _ ⟨w.heap.size + 1 + 1, 3, none⟩ _) g).only (Only.cell _ ⟨w.heap.size + 1 + 1, 4, none⟩ _) g, fun q hq => by have := LO8.out q hq; omega⟩
      · exact ((((b8.setCell (by simp; omega) _).setCell (by simp; omega) _).setCell (by simp; omega) _).setCell (by simp; omega) _).setCell (by simp; omega) _
    · have hzb : (code == 0) = false := by simp [hz]
      have HE : Hid (res = seenAt x y.number) := HG.out.2.2.2 hnA hz
      have HA : Hid _ := And.intro own5 (And.intro cap5 (And.intro n5 (And.intro z5 (And.intro rx5 (And.intro b5 s5)))))
      clear own5 cap5 n5 z5 rx5 b5 s5 own4 cap4
      go_wp2_with fail
      rw [← hw5]
      obtain ⟨own5, cap5, n5, z7, rx5, b7, s5⟩ := HA.out
      rw [← hw5] at own5 z7 b7 s5
      clear HA hw5 x0 x1 x2 x3 x4 x4f m0 m1 m2 m3 m4 m5 cap5 n5 rx5
      have s7 : w.heap.size + 3 ≤ w5.heap.size := by omega
      refine (l2Copy_own (seenAt x y.number) f0 f1 f2 f3 k0 k1 k2 k3 w5 (OwnBook.seen own5 _).in_ (seenAt_room R _)).mono ?_
      clear own5
      rintro e w8 ⟨⟨g0, g1, g2, g3, j0, j1, j2, j3, G1, J1, G2, J2, rfl, own8, -, -, lo8⟩, hb8⟩
      have b8 := b7.trans (hb8.mono b7.size)
      have z8 := z7.later hb8
      have s8 := hb8.size
      have LO8 : Hid (∀ q, InBk (seenAt x y.number) g0 g1 g2 g3 G1 G2 q → w.heap.size + 3 ≤ q) := fun q hq => by have := lo8 q hq; omega
      clear hb8 lo8 z7 b7
      unfold bookV
      have r0 := z8.cell 0 rfl
      have r1 := z8.cell 1 rfl
      have r2 := z8.cell 2 rfl
      have r3 := z8.cell 3 rfl
      have r4 := z8.cell 4 rfl
      have l0 := z8.frozen 0
      have l1 := z8.frozen 1
      have l2 := z8.frozen 2
      have l3 := z8.frozen 3
      have l4 := z8.frozen 4
      have OWN : Hid _ := own8
      clear own8
      generalize hbk : (seenAt x y.number) = bk at OWN LO8 HE ⊢
      clear hbk
      go_wp2
      refine bodyPost_ret (v := .tuple #[.agg #[.slice g0 bk.foes.length j0, .slice g1 bk.spots.length j1, .slice g2 bk.valves.length j2, .slice g3 bk.parts.length j3, .int .i64 bk.seen], .int .i64 code])
       (by simp [results, Tryz.results148, go_sem, r0, r1, r2, r3, r4]) rfl ⟨?_, ?_⟩
      · rw [HE.out]
        have g : ∀ q, InBk bk g0 g1 g2 g3 G1 G2 q → ¬ q = w.heap.size + 1 + 1 := fun q hq => by have := LO8.out q hq; omega
        exact ⟨g0, g1, g2, g3, j0, j1, j2, j3, G1, J1, G2, J2, rfl, ((((OWN.out.only (Only.cell _ ⟨w.heap.size + 1 + 1, 0, none⟩ _) g).only (Only.cell _ ⟨w.heap.size + 1 + 1, 1, none⟩ _) g).only (Only.cell _ ⟨w.heap.size + 1 + 1, 2, none⟩ _) g).only (Only.cell _ ⟨w.heap.size + 1 + 1, 3, none⟩ _) g).only (Only.cell _ ⟨w.heap.size + 1 + 1, 4, none⟩ _) g, fun q hq => by have := LO8.out q hq; omega⟩
      · exact ((((b8.setCell (by simp; omega) _).setCell (by simp; omega) _).setCell (by simp; omega) _).setCell (by simp; omega) _).setCell (by simp; omega) _

end Go.Proofs.YtfmhkicncgccjaaGreat

