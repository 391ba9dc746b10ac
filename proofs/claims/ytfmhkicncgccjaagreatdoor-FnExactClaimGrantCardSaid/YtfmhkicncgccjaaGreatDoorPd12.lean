/- Joined: CdS5, CdN. -/
import Derived.Test.YtfmhkicncgccjaaGreatDoorPd11
import Derived.Test.YtfmhkicncgccjaaGreatDoorPd08
import Derived.Test.YtfmhkicncgccjaaGreatDoorPd10
/- What the specification's ClaimCode answers. -/
namespace Go.Proofs.YtfmhkicncgccjaaGreatDoor
open Go.RowKit Go.Sort
set_option linter.unusedSimpArgs false
set_option linter.unusedVariables false

/-- What an ok book has. -/
theorem bookB_parts {x : Book} (h : bookB x = true) : partsOkB x = true ∧ allTo x.spots.length (spotAtB x) = true ∧ foesOkB x.foes = true := by
  unfold bookB at h
  simp only [Bool.and_eq_true] at h
  exact ⟨h.2, h.1.2, h.1.1.1.1.1⟩
theorem bookB_most {x : Book} (h : bookB x = true) : MostFit x := by
  intro s hs
  obtain ⟨j, hj, rfl⟩ := List.getElem_of_mem hs
  have := allTo_iff.1 (bookB_parts h).2.1 j hj
  unfold spotAtB at this
  rw [gp_lt hj] at this
  simp only [Bool.and_eq_true] at this
  have h2 := this.1
  unfold spotOkB inB at h2
  simp only [Bool.and_eq_true, decide_eq_true_eq] at h2
  omega
theorem bookB_mays {x : Book} (h : bookB x = true) : ∀ s ∈ x.spots, s.may.length ≤ 8 := by
  intro s hs
  obtain ⟨j, hj, rfl⟩ := List.getElem_of_mem hs
  have := allTo_iff.1 (bookB_parts h).2.1 j hj
  unfold spotAtB at this
  rw [gp_lt hj] at this
  simp only [Bool.and_eq_true] at this
  have h2 := this.1
  unfold spotOkB at h2
  simp only [Bool.and_eq_true] at h2
  have h3 : namesB x.spots[j].may 8 = true := h2.1.2
  have := namesB_len h3
  omega
theorem bookB_uses {x : Book} (h : bookB x = true) {k : Nat} (hk : k < x.parts.length) : (gq x.parts k).want.uses.length ≤ 8 := by
  have h1 := (bookB_parts h).1
  unfold partsOkB at h1
  rw [Bool.and_eq_true] at h1
  exact partOk_uses (partAt_ok (allTo_iff.1 h1.2 k hk))
theorem wantB_parts {y : Want} (h : wantB y = true) : y.stuffs.length ≤ 8 ∧ y.uses.length ≤ 8 := by
  unfold wantB at h
  simp only [Bool.and_eq_true] at h
  have h1 := usesS_len h.1.1.1.1.1.1.1.2
  have h2 : namesB y.stuffs 8 = true := h.1.2
  have := namesB_len h2
  omega

theorem codeC_book {x : Book} {y : Want} (h : bookB x = false) : codeC x y = 1 := by unfold codeC; rw [h]; rfl
theorem codeC_want {x : Book} {y : Want} (h : bookB x = true) (hw : (wantB y && knowsB x y) = false) : codeC x y = 2 := by unfold codeC; rw [h, hw]; rfl
theorem codeC_number {x : Book} {y : Want} (h : bookB x = true) (hw : wantB y = true) (hk : knowsB x y = true) : codeC x y = numberC x y := by unfold codeC; rw [h, hw, hk]; rfl
theorem numberC_at {x : Book} {y : Want} {j : Nat} (h : partI x.parts y.number = (j : Int)) : numberC x y = if sameB (gq x.parts j).want y then 0 else 3 := by
  unfold numberC; rw [h]; simp
theorem numberC_none {x : Book} {y : Want} (h : partI x.parts y.number = -1) : numberC x y = if y.number ≤ x.seen then 4 else laterC x y := by
  unfold numberC; rw [h]; simp

set_option maxRecDepth 100000 in
set_option maxHeartbeats 8000000 in
theorem specCode_any (x : Book) (af ap av aq : Option Addr) (cf cp cv cq : Nat) (y : Want) (a2 a3 a4 a5 : Option Addr) (c2 c3 c4 c5 : Nat) (w : World) (hx : BookIn w x af ap av aq) (hy : WantIn w y a2 a3 a4 a5) (fx : BookFit x) (fy : WantFit y) :
    Calls Tryz.prog 7 #[bookV x af ap av aq cf cp cv cq, wantW y a2 a3 a4 a5 c2 c3 c4 c5] w fun e w' => e = .returned (.int .i64 (codeC x y)) ∧ Below w.heap.size w w' := by
  have hlp := fx.parts.len
  unfold maxLen at hlp
  unfold bookV wantW
  have b0 : Below w.heap.size w ((w.alloc (.cells (bookL x af ap av aq cf cp cv cq).toArray 38)).alloc (.cells (wantL y a2 a3 a4 a5 c2 c3 c4 c5).toArray 42)) := ((Below.refl _ _).alloc (Nat.le_refl _) _).alloc (by simp) _
  have i0 : Row ((w.alloc (.cells (bookL x af ap av aq cf cp cv cq).toArray 38)).alloc (.cells (wantL y a2 a3 a4 a5 c2 c3 c4 c5).toArray 42)) w.heap.size 38 (bookL x af ap av aq cf cp cv cq) := (Row.new w 38 (bookL x af ap av aq cf cp cv cq)).alloc _
  have o0 : Row ((w.alloc (.cells (bookL x af ap av aq cf cp cv cq).toArray 38)).alloc (.cells (wantL y a2 a3 a4 a5 c2 c3 c4 c5).toArray 42)) (w.heap.size + 1) 42 (wantL y a2 a3 a4 a5 c2 c3 c4 c5) := by
    have := Row.new (w.alloc (.cells (bookL x af ap av aq cf cp cv cq).toArray 38)) 42 (wantL y a2 a3 a4 a5 c2 c3 c4 c5)
    simpa using this
  go_enter Tryz.func7, Tryz.ntmps7
  go_wp2_with fail
  refine (specBookOk_any x af ap av aq cf cp cv cq _ (hx.later b0) fx).mono ?_
  rintro e w1 ⟨rfl, hb⟩
  have b1 := b0.trans (hb.mono b0.size)
  have i1 := i0.later hb
  have o1 := o0.later hb
  clear b0 i0 o0 hb
  cases hbk : bookB x with
  | false =>
    go_wp2
    go_ret
    exact ⟨ret_int (codeC_book hbk).symm, b1⟩
  | true =>
  have z0 := o1.cell 0 rfl
  have z1 := o1.cell 1 rfl
  have z2 := o1.cell 2 rfl
  have z3 := o1.cell 3 rfl
  have z4 := o1.cell 4 rfl
  have z5 := o1.cell 5 rfl
  go_wp2_with fail
  refine (specWantOk_any y a2 a3 a4 a5 c2 c3 c4 c5 _ (hy.later b1) fy).mono ?_
  rintro e w2 ⟨rfl, hb⟩
  have b2 := b1.trans (hb.mono b1.size)
  have i2 := i1.later hb
  have o2 := o1.later hb
  clear b1 i1 o1 hb
  clear z0 z1 z2 z3 z4 z5
  cases hwn : wantB y with
  | false =>
    go_wp2
    go_ret
    exact ⟨ret_int (codeC_want hbk (by rw [hwn]; rfl)).symm, b2⟩
  | true =>
  have y0 := i2.cell 0 rfl
  have y1 := i2.cell 1 rfl
  have y2 := i2.cell 2 rfl
  have y3 := i2.cell 3 rfl
  have y4 := i2.cell 4 rfl
  have z0 := o2.cell 0 rfl
  have z1 := o2.cell 1 rfl
  have z2 := o2.cell 2 rfl
  have z3 := o2.cell 3 rfl
  have z4 := o2.cell 4 rfl
  have z5 := o2.cell 5 rfl
  go_wp2_with fail
  refine (l2Knows_any x af ap av aq cf cp cv cq y a2 a3 a4 a5 c2 c3 c4 c5 _ (hx.later b2) (hy.later b2) fx fy).mono ?_
  rintro e w3 ⟨rfl, hb⟩
  have b3 := b2.trans (hb.mono b2.size)
  have i3 := i2.later hb
  have o3 := o2.later hb
  clear b2 i2 o2 hb
  clear y0 y1 y2 y3 y4 z0 z1 z2 z3 z4 z5
  cases hkn : knowsB x y with
  | false =>
    go_wp2
    go_ret
    exact ⟨ret_int (codeC_want hbk (by rw [hkn, Bool.and_false])).symm, b3⟩
  | true =>
  have HC : Hid (codeC x y = numberC x y) := codeC_number hbk hwn hkn
  have y0 := i3.cell 0 rfl
  have y1 := i3.cell 1 rfl
  have y2 := i3.cell 2 rfl
  have y3 := i3.cell 3 rfl
  have y4 := i3.cell 4 rfl
  have z0 := o3.cell 0 rfl
  go_wp2_with fail
  refine (l2Part_any x af ap av aq cf cp cv cq y.number _ (hx.later b3).parts fx.parts.len).mono ?_
  rintro e w4 ⟨rfl, hb⟩
  have b4 := b3.trans (hb.mono b3.size)
  have i4 := i3.later hb
  have o4 := o3.later hb
  clear b3 i3 o3 hb
  clear y0 y1 y2 y3 y4 z0
  rcases partI_cases x.parts y.number with ⟨hpn, -⟩ | ⟨j, hj, hpj, -, -⟩
  case inr =>
    have HP : Hid (codeC x y = if sameB (gq x.parts j).want y then 0 else 3) := HC.out.trans (numberC_at hpj)
    rw [hpj]
    obtain ⟨b, o, e2, e3, e4, e5, d2, d3, d4, d5, ha, hb, hc0, hc1, hc2, hc3, hc4, hc5, hc6, hst⟩ := (hx.later b4).parts.at hj
    have hfp := fx.parts.wants _ (gq_mem hj)
    subst ha
    have r3 := cell_regrown (i4.cell 3 rfl)
    have s0 := cell_regrown (o4.cell 0 rfl)
    have s1 := cell_regrown (o4.cell 1 rfl)
    have s2 := cell_regrown (o4.cell 2 rfl)
    have s3 := cell_regrown (o4.cell 3 rfl)
    have s4 := cell_regrown (o4.cell 4 rfl)
    have s5 := cell_regrown (o4.cell 5 rfl)
    have t0 := cell_regrown hc0
    have t1 := cell_regrown hc1
    have t2 := cell_regrown hc2
    have t3 := cell_regrown hc3
    have t4 := cell_regrown hc4
    have t5 := cell_regrown hc5
    have hcall := fun d os => Calls.regrown_of (w := w4) (l1Same_any (gq x.parts j).want y e2 e3 e4 e5 d2 d3 d4 d5 a2 a3 a4 a5 c2 c3 c4 c5 (grow (redrawn w4 d) os) (hst.later (below_regrown w4 d os)) (hy.later (b4.trans ((below_regrown w4 d os).mono b4.size))) hfp)
    unfold wantW at hcall
    have hj2 : (j : Int) < x.parts.length := by omega
    have hj0 : (0 : Int) ≤ j := by omega
    clear hc0 hc1 hc2 hc3 hc4 hc5 hc6 i4 o4
    go_wp2
    refine wp_region_quiet_below (by kernel_rfl) (by kernel_rfl) ?_
    repeat (quiet_step (exact hcall _ _))
    refine wpQuiet_nil ?_
    intro w5 hw'
    obtain ⟨⟨dq, osq⟩, hw''⟩ := hw'
    have b5 := b4.trans ((hw'' ▸ below_regrown w4 dq osq).mono b4.size)
    clear hw'' hcall r3 s0 s1 s2 s3 s4 s5 t0 t1 t2 t3 t4 t5
    cases hq : sameB (gq x.parts j).want y with
    | true =>
      go_wp2
      go_ret
      exact ⟨ret_int (by rw [HP.out, hq]; rfl), b5⟩
    | false =>
      go_wp2
      go_ret
      exact ⟨ret_int (by rw [HP.out, hq]; rfl), b5⟩
  case inl =>
  have HN : Hid (codeC x y = if y.number ≤ x.seen then 4 else laterC x y) := HC.out.trans (numberC_none hpn)
  rw [hpn]
  have z0 := o4.cell 0 rfl
  have y4 := i4.cell 4 rfl
  have y3 := i4.cell 3 rfl
  by_cases hse : y.number ≤ x.seen
  · go_wp2
    go_ret
    exact ⟨ret_int (by rw [HN.out, if_pos hse]), b4⟩
  have HL : Hid (codeC x y = laterC x y) := HN.out.trans (if_neg hse)
  by_cases hmp : (6 : Int) ≤ x.parts.length
  · go_wp2
    go_ret
    exact ⟨ret_int (by rw [HL.out]; unfold laterC; rw [if_pos (by omega)]), b4⟩
  have hmp' : ¬ 6 ≤ x.parts.length := by omega
  have HLL : Hid (codeC x y = if usedByB x y then 6 else if crossedB x y then 7 else if stuffsC x y = 0 then amountsC x y else stuffsC x y) := HL.out.trans (by unfold laterC; rw [if_neg hmp'])
  have hmf := bookB_most hbk
  have hms := bookB_mays hbk
  have hwp := wantB_parts hwn
  clear hmp'
  go_wp2
  clear z0 y3 y4 hmp hse
  go_loopw [6] (fun i wr => ∃ (k : Nat), k ≤ x.parts.length ∧ i = .int .i64 k ∧ allTo k (fun i => !shareB (usesN y) (usesN (gq x.parts i).want)) = true ∧ Below w4.heap.size w4 wr) (fun i _ => x.parts.length - (intOf i).toNat)
  case atStart => exact ⟨0, Nat.zero_le _, rfl, rfl, Below.refl _ _⟩
  case round wr =>
    obtain ⟨k, hk, rfl, hall, hbel⟩ := hrel
    have hbw := b4.trans (hbel.mono b4.size)
    have i5 := i4.later hbel
    have o5 := o4.later hbel
    have y3 := i5.cell 3 rfl
    by_cases hlt : k < x.parts.length
    · obtain ⟨b, o, e2, e3, e4, e5, d2, d3, d4, d5, ha, hb, hc0, hc1, hc2, hc3, hc4, hc5, -, hst⟩ := (hx.later hbw).parts.at hlt
      have hfp := fx.parts.wants _ (gq_mem hlt)
      have hu8 := bookB_uses hbk hlt
      subst ha
      have hcW : ∀ W', Below wr.heap.size wr W' → Calls Tryz.prog 29 #[.agg #[.int .i64 y.number, .int .i64 y.kind, .slice a2 y.stuffs.length c2, .slice a3 y.uses.length c3, .slice a4 y.opens.length c4, .slice a5 y.shuts.length c5]] W' fun e w' => (∃ a cap, e = .returned (.slice a (usesN y).length cap) ∧ StrsAt w' a (usesN y)) ∧ Below wr.heap.size wr w' ∧ wr.heap.size ≤ w'.heap.size ∧ Below W'.heap.size W' w' := fun W' hb' =>
        (l2Uses_any y a2 a3 a4 a5 c2 c3 c4 c5 W' (hy.later (hbw.trans (hb'.mono hbw.size))).uses hwp.2).mono fun _ _ h => ⟨h.1, hb'.trans (h.2.mono hb'.size), Nat.le_trans hb'.size h.2.size, h.2⟩
      have hcP : ∀ W', Below wr.heap.size wr W' → Calls Tryz.prog 29 #[.agg #[.int .i64 (gq x.parts k).want.number, .int .i64 (gq x.parts k).want.kind, .slice e2 (gq x.parts k).want.stuffs.length d2, .slice e3 (gq x.parts k).want.uses.length d3, .slice e4 (gq x.parts k).want.opens.length d4, .slice e5 (gq x.parts k).want.shuts.length d5]] W' fun e w' => (∃ a cap, e = .returned (.slice a (usesN (gq x.parts k).want).length cap) ∧ StrsAt w' a (usesN (gq x.parts k).want)) ∧ Below wr.heap.size wr w' ∧ wr.heap.size ≤ w'.heap.size ∧ Below W'.heap.size W' w' := fun W' hb' =>
        (l2Uses_any (gq x.parts k).want e2 e3 e4 e5 d2 d3 d4 d5 W' (hst.later hb').uses hu8).mono fun _ _ h => ⟨h.1, hb'.trans (h.2.mono hb'.size), Nat.le_trans hb'.size h.2.size, h.2⟩
      have hn1 : (usesN y).length ≤ maxLen := by rw [usesN_len]; unfold maxLen; omega
      have hn2 : (usesN (gq x.parts k).want).length ≤ maxLen := by rw [usesN_len]; unfold maxLen; omega
      have hlt2 : (k : Int) < x.parts.length := by omega
      have hk0 : (0 : Int) ≤ k := by omega
      have y0 := o5.cell 0 rfl
      have y1 := o5.cell 1 rfl
      have y2 := o5.cell 2 rfl
      have y4 := o5.cell 3 rfl
      have y5 := o5.cell 4 rfl
      have y6 := o5.cell 5 rfl
      have hS : ∀ w', Below wr.heap.size wr w' → (w'.cell? ⟨w.heap.size, 3, none⟩ = some (.slice (some ⟨b, o, none⟩) x.parts.length cq) ∧ w'.cell? ⟨w.heap.size + 1, 0, none⟩ = some (.int .i64 y.number) ∧ w'.cell? ⟨w.heap.size + 1, 1, none⟩ = some (.int .i64 y.kind) ∧ w'.cell? ⟨w.heap.size + 1, 2, none⟩ = some (.slice a2 y.stuffs.length c2) ∧ w'.cell? ⟨w.heap.size + 1, 3, none⟩ = some (.slice a3 y.uses.length c3) ∧ w'.cell? ⟨w.heap.size + 1, 4, none⟩ = some (.slice a4 y.opens.length c4) ∧ w'.cell? ⟨w.heap.size + 1, 5, none⟩ = some (.slice a5 y.shuts.length c5) ∧
          w'.cell? ⟨b, o + k * 7, none⟩ = some (.int .i64 (gq x.parts k).want.number) ∧ w'.cell? ⟨b, o + k * 7 + 1, none⟩ = some (.int .i64 (gq x.parts k).want.kind) ∧ w'.cell? ⟨b, o + k * 7 + 2, none⟩ = some (.slice e2 (gq x.parts k).want.stuffs.length d2) ∧ w'.cell? ⟨b, o + k * 7 + 3, none⟩ = some (.slice e3 (gq x.parts k).want.uses.length d3) ∧ w'.cell? ⟨b, o + k * 7 + 4, none⟩ = some (.slice e4 (gq x.parts k).want.opens.length d4) ∧ w'.cell? ⟨b, o + k * 7 + 5, none⟩ = some (.slice e5 (gq x.parts k).want.shuts.length d5) ∧ Below wr.heap.size wr w' ∧ wr.heap.size ≤ w'.heap.size) := fun w' hb' =>
        ⟨cell_later hb' y3, cell_later hb' y0, cell_later hb' y1, cell_later hb' y2, cell_later hb' y4, cell_later hb' y5, cell_later hb' y6, cell_later hb' hc0, cell_later hb' hc1, cell_later hb' hc2, cell_later hb' hc3, cell_later hb' hc4, cell_later hb' hc5, hb', hb'.size⟩
      clear i5 o5
      go_wp2_with fail
      go_region_held3 (fun w' => (w'.cell? ⟨w.heap.size, 3, none⟩ = some (.slice (some ⟨b, o, none⟩) x.parts.length cq) ∧ w'.cell? ⟨w.heap.size + 1, 0, none⟩ = some (.int .i64 y.number) ∧ w'.cell? ⟨w.heap.size + 1, 1, none⟩ = some (.int .i64 y.kind) ∧ w'.cell? ⟨w.heap.size + 1, 2, none⟩ = some (.slice a2 y.stuffs.length c2) ∧ w'.cell? ⟨w.heap.size + 1, 3, none⟩ = some (.slice a3 y.uses.length c3) ∧ w'.cell? ⟨w.heap.size + 1, 4, none⟩ = some (.slice a4 y.opens.length c4) ∧ w'.cell? ⟨w.heap.size + 1, 5, none⟩ = some (.slice a5 y.shuts.length c5) ∧
          w'.cell? ⟨b, o + k * 7, none⟩ = some (.int .i64 (gq x.parts k).want.number) ∧ w'.cell? ⟨b, o + k * 7 + 1, none⟩ = some (.int .i64 (gq x.parts k).want.kind) ∧ w'.cell? ⟨b, o + k * 7 + 2, none⟩ = some (.slice e2 (gq x.parts k).want.stuffs.length d2) ∧ w'.cell? ⟨b, o + k * 7 + 3, none⟩ = some (.slice e3 (gq x.parts k).want.uses.length d3) ∧ w'.cell? ⟨b, o + k * 7 + 4, none⟩ = some (.slice e4 (gq x.parts k).want.opens.length d4) ∧ w'.cell? ⟨b, o + k * 7 + 5, none⟩ = some (.slice e5 (gq x.parts k).want.shuts.length d5) ∧ Below wr.heap.size wr w' ∧ wr.heap.size ≤ w'.heap.size))
        ((refine hS _ ?_; repeat (first | assumption | exact Below.refl _ _ | refine Below.drew ?_)))
        (first
          | (go_at_call 29; with_reducible refine (hcP _ ?_).mono ?_; (simp [*]); rintro e w'2 ⟨⟨ad2, cap2, rfl, hs2⟩, hb2, hsz2, hlt2'⟩)
          | (go_at_call 29; with_reducible refine (hcW _ ?_).mono ?_; (simp [*]); rintro e w'1 ⟨⟨ad1, cap1, rfl, hs1⟩, hb1, hsz1, hlt1'⟩)
          | (go_at_call 28; refine (l1Share_any ad1 ad2 cap1 cap2 (usesN y) (usesN (gq x.parts k).want) _ (hs1.later (hlt2'.mono (Nat.le_refl _))) hs2 hn1 hn2).mono ?_; rintro e w'3 ⟨rfl, rfl⟩))
      have hbN := hbel.trans (hb2.mono hbel.size)
      have hbF := b4.trans (hbN.mono b4.size)
      rename_i hHeld
      clear hHeld hS hcW hcP y0 y1 y2 y3 y4 y5 y6 hc0 hc1 hc2 hc3 hc4 hc5 hs1 hs2 hb1 hsz1 hlt1' hsz2 hlt2' hb2
      cases hq : shareB (usesN y) (usesN (gq x.parts k).want) with
      | true =>
        go_wp2
        go_ret
        exact ⟨ret_int (by rw [HLL.out, show usedByB x y = true from anyTo_true k hlt hq]; rfl), hbF⟩
      | false =>
        go_wp2
        go_roundw
        case rel => exact ⟨k + 1, by omega, by go_num, allTo_succ hall (by rw [hq]; rfl), hbN⟩
        case measure => simp [intOf]; omega
    · have hkk : k = x.parts.length := by omega
      subst hkk
      have HM : Hid (codeC x y = if crossedB x y then 7 else if stuffsC x y = 0 then amountsC x y else stuffsC x y) := HLL.out.trans (by rw [show usedByB x y = false from anyTo_none hall]; rfl)
      clear hall hlt hk
      go_wp2
      go_loopw [7] (fun i wv => ∃ (k : Nat) (w6 : World), w6 = wv ∧ k ≤ x.parts.length ∧ i = .int .i64 k ∧ allTo k (fun i => !crossB y (gq x.parts i).want) = true ∧ Below wr.heap.size wr w6) (fun i _ => x.parts.length - (intOf i).toNat)
      case atStart => exact ⟨0, _, rfl, Nat.zero_le _, rfl, rfl, Below.refl _ _⟩
      case round =>
        obtain ⟨k, w6, rfl, hk, rfl, hall, hbel6⟩ := hrel
        have hbw6 := hbw.trans (hbel6.mono hbw.size)
        have i6 := i5.later hbel6
        have o6 := o5.later hbel6
        have y3 := i6.cell 3 rfl
        by_cases hlt : k < x.parts.length
        · obtain ⟨b, o, e2, e3, e4, e5, d2, d3, d4, d5, ha, hb, hc0, hc1, hc2, hc3, hc4, hc5, -, hst⟩ := (hx.later hbw6).parts.at hlt
          have hfp := fx.parts.wants _ (gq_mem hlt)
          subst ha
          have r3 := cell_regrown y3
          have s0 := cell_regrown (o6.cell 0 rfl)
          have s1 := cell_regrown (o6.cell 1 rfl)
          have s2 := cell_regrown (o6.cell 2 rfl)
          have s3 := cell_regrown (o6.cell 3 rfl)
          have s4 := cell_regrown (o6.cell 4 rfl)
          have s5 := cell_regrown (o6.cell 5 rfl)
          have t0 := cell_regrown hc0
          have t1 := cell_regrown hc1
          have t2 := cell_regrown hc2
          have t3 := cell_regrown hc3
          have t4 := cell_regrown hc4
          have t5 := cell_regrown hc5
          have hcall := fun d os => Calls.regrown_of (w := w6) (l2Crosses_any y (gq x.parts k).want a2 a3 a4 a5 c2 c3 c4 c5 e2 e3 e4 e5 d2 d3 d4 d5 (grow (redrawn w6 d) os) (hy.later (hbw6.trans ((below_regrown w6 d os).mono hbw6.size))) (hst.later (below_regrown w6 d os)) fy hfp)
          unfold wantW at hcall
          have hlt2 : (k : Int) < x.parts.length := by omega
          have hk0 : (0 : Int) ≤ k := by omega
          clear hc0 hc1 hc2 hc3 hc4 hc5 i6 o6
          go_wp2
          refine wp_region_quiet_below (by kernel_rfl) (by kernel_rfl) ?_
          repeat (quiet_step (exact hcall _ _))
          refine wpQuiet_nil ?_
          intro w7 hw'
          obtain ⟨⟨dq, osq⟩, hw''⟩ := hw'
          have hb7 := hbel6.trans ((hw'' ▸ below_regrown w6 dq osq).mono hbel6.size)
          have hbF := hbw.trans (hb7.mono hbw.size)
          clear hw'' hcall r3 s0 s1 s2 s3 s4 s5 t0 t1 t2 t3 t4 t5
          cases hq : crossB y (gq x.parts k).want with
          | true =>
            go_wp2
            go_ret
            exact ⟨ret_int (by rw [HM.out, show crossedB x y = true from anyTo_true k hlt hq]; rfl), hbF⟩
          | false =>
            go_wp2
            go_roundw
            case rel => exact ⟨k + 1, _, rfl, by omega, by go_num, allTo_succ hall (by rw [hq]; rfl), hb7⟩
            case measure => simp [intOf]; omega
        · have hkk : k = x.parts.length := by omega
          subst hkk
          have HZ : Hid (codeC x y = if stuffsC x y = 0 then amountsC x y else stuffsC x y) := HM.out.trans (by rw [show crossedB x y = false from anyTo_none hall]; rfl)
          clear hall hlt hk
          have y0 := i6.cell 0 rfl
          have y1 := i6.cell 1 rfl
          have y2 := i6.cell 2 rfl
          have y4 := i6.cell 4 rfl
          have z0 := o6.cell 0 rfl
          have z1 := o6.cell 1 rfl
          have z2 := o6.cell 2 rfl
          have z3 := o6.cell 3 rfl
          have z4 := o6.cell 4 rfl
          have z5 := o6.cell 5 rfl
          go_wp2_with fail
          refine (l3Stuffs_any x af ap av aq cf cp cv cq y a2 a3 a4 a5 c2 c3 c4 c5 _ (hx.later hbw6) (hy.later hbw6) fx fy hkn hms hwp.1).mono ?_
          rintro e w8 ⟨rfl, hb⟩
          have b8 := hbw6.trans (hb.mono hbw6.size)
          have i8 := i6.later hb
          have o8 := o6.later hb
          clear y0 y1 y2 y3 y4 z0 z1 z2 z3 z4 z5 i6 o6 hb
          generalize hsc : stuffsC x y = sc
          rw [hsc] at HZ
          clear hsc
          cases hq : sc != 0 with
          | true =>
            go_wp2
            go_ret
            exact ⟨ret_int (by rw [HZ.out, if_neg (by simpa using hq)]), b8⟩
          | false =>
            have y0 := i8.cell 0 rfl
            have y1 := i8.cell 1 rfl
            have y2 := i8.cell 2 rfl
            have y3 := i8.cell 3 rfl
            have y4 := i8.cell 4 rfl
            have z0 := o8.cell 0 rfl
            have z1 := o8.cell 1 rfl
            have z2 := o8.cell 2 rfl
            have z3 := o8.cell 3 rfl
            have z4 := o8.cell 4 rfl
            have z5 := o8.cell 5 rfl
            go_wp2_with fail
            refine (l3Amounts_any x af ap av aq cf cp cv cq y a2 a3 a4 a5 c2 c3 c4 c5 _ (hx.later b8) (hy.later b8) fx fy hmf hwn hkn).mono ?_
            rintro e w9 ⟨rfl, hb⟩
            go_wp2
            go_ret
            exact ⟨ret_int (by rw [HZ.out, if_pos (by simpa using hq)]), b8.trans (hb.mono b8.size)⟩

end Go.Proofs.YtfmhkicncgccjaaGreatDoor

/- What the program's looks find, as plain data, and that its code is ClaimCode's. -/
namespace Go.Proofs.YtfmhkicncgccjaaGreatDoor
open Go.RowKit Go.Sort
set_option linter.unusedSimpArgs false
set_option linter.unusedVariables false

/-- Nil for 0, else a reason. -/
def cV (c : Int) : Value := if c = 0 then .nilIface else reasonV c

theorem role_move {y : Want} (h : wantB y = true) {i : Nat} (hi : i < y.uses.length) (hr : (gu y.uses i).role ≠ 3) : y.kind = 1 := by
  unfold wantB at h
  simp only [Bool.and_eq_true] at h
  have hu : usesS y.kind y.uses = true := h.1.1.1.1.1.1.1.2
  unfold usesS at hu
  rw [Bool.and_eq_true] at hu
  have := allTo_iff.1 hu.2 i hi
  unfold useAtS at this
  simp only [Bool.and_eq_true] at this
  have ha := this.2
  unfold amtS at ha
  rw [if_neg (by simpa using hr), Bool.and_eq_true] at ha
  simpa using ha.1
theorem role_in {y : Want} (h : wantB y = true) {i : Nat} (hi : i < y.uses.length) : 1 ≤ (gu y.uses i).role ∧ (gu y.uses i).role ≤ 3 := by
  unfold wantB at h
  simp only [Bool.and_eq_true] at h
  have hu : usesS y.kind y.uses = true := h.1.1.1.1.1.1.1.2
  unfold usesS at hu
  rw [Bool.and_eq_true] at hu
  have := allTo_iff.1 hu.2 i hi
  unfold useAtS at this
  simp only [Bool.and_eq_true] at this
  have h2 := this.1.2
  unfold inB at h2
  simp at h2
  exact h2
theorem want_stuffs {y : Want} (h : wantB y = true) : namesB y.stuffs 8 = true ∧ (y.kind = 1 → 0 < y.stuffs.length) := by
  unfold wantB at h
  simp only [Bool.and_eq_true] at h
  refine ⟨h.1.2, fun hk => ?_⟩
  have := h.2
  rw [hk] at this
  simpa using this
theorem spot_may {x : Book} (h : bookB x = true) {j : Nat} (hj : j < x.spots.length) : namesB (gp x.spots j).may 8 = true := by
  have := allTo_iff.1 (bookB_parts h).2.1 j hj
  unfold spotAtB at this
  simp only [Bool.and_eq_true] at this
  have h2 := this.1
  unfold spotOkB at h2
  simp only [Bool.and_eq_true] at h2
  exact h2.1.2

theorem foes_clash (fs : List Foe) (xs ys : List ByteArray) : anyFoesB fs xs ys = clashesB fs ys xs := by
  apply bool_eq_of_iff
  unfold anyFoesB clashesB clashB
  simp only [anyTo_iff]
  constructor
  · rintro ⟨i, hi, j, hj, h⟩; exact ⟨j, hj, i, hi, by rw [foesB_symm]; exact h⟩
  · rintro ⟨j, hj, i, hi, h⟩; exact ⟨i, hi, j, hj, by rw [foesB_symm]; exact h⟩

/-- The code of what meets in a place, of any want. -/
def mayC (x : Book) (y : Want) (i : Nat) : Int := if y.kind == 1 then mayAt x y i else 0

theorem mayW_code {fs : List Foe} {s : Spot} {y : Want} {u : Use} (h1 : namesB s.may 8 = true) (h2 : namesB y.stuffs 8 = true) : mayW fs s y u = cV (if y.kind == 1 then mayCode fs s y u else 0) := by
  unfold mayW mayCode
  cases y.kind == 1 with
  | false => rfl
  | true =>
    simp only [if_true]
    cases u.role == 2 with
    | false =>
      simp only [Bool.false_eq_true, if_false]
      cases allB s.may y.stuffs <;> rfl
    | true =>
      simp only [if_true]
      rw [foes_clash, show (joinL s.may y.stuffs).length = unionN s.may y.stuffs from union_same (namesB_nodup h1) (namesB_nodup h2)]
      cases clashesB fs y.stuffs s.may with
      | true => rfl
      | false =>
        simp only [Bool.false_eq_true, if_false]
        by_cases h : 8 < unionN s.may y.stuffs
        · rw [if_pos h, decide_eq_true h]; rfl
        · rw [if_neg h, decide_eq_false h]; rfl

theorem amtW_code {s : Spot} {y : Want} {u : Use} (hk : u.role ≠ 3 → y.kind = 1) : amtW s y u = cV (amtCode s y u) := by
  unfold amtW amtCode
  cases r1 : u.role == 1 with
  | true =>
    have e1 : u.role = 1 := by simpa using r1
    have e2 : (u.role == 2) = false := by rw [e1]; rfl
    have e3 : (y.kind == 2) = false := by rw [hk (by omega)]; rfl
    rw [e2, e3]
    simp only [if_true, Bool.true_and, Bool.false_and, Bool.false_eq_true, if_false]
    by_cases h : s.least < u.amount
    · rw [if_pos (decide_eq_true h), decide_eq_true h]; rfl
    · rw [if_neg (by simpa using h), decide_eq_false h]; rfl
  | false =>
    cases r2 : u.role == 2 with
    | true =>
      have e1 : u.role = 2 := by simpa using r2
      have e3 : (y.kind == 2) = false := by rw [hk (by omega)]; rfl
      rw [e3]
      simp only [if_true, Bool.true_and, Bool.false_and, Bool.false_eq_true, if_false]
      by_cases h : s.cap < s.most + u.amount
      · rw [if_pos (decide_eq_true h), decide_eq_true h]; rfl
      · rw [if_neg (by simpa using h), decide_eq_false h]; rfl
    | false =>
      simp only [Bool.false_and, Bool.false_eq_true, if_false]
      cases y.kind == 2 && decide (0 < s.most) <;> rfl

/-- The first place below n at which p is not 0. -/
def firstIdx : Nat → (Nat → Int) → Option Nat
  | 0, _ => none
  | n + 1, p => match firstIdx n p with
    | some i => some i
    | none => if p n = 0 then none else some n
theorem firstIdx_zeros {p : Nat → Int} : ∀ {n : Nat}, zerosTo n p = true → firstIdx n p = none
  | 0, _ => rfl
  | n + 1, h => by
    unfold zerosTo allTo at h
    rw [Bool.and_eq_true] at h
    have h2 : p n = 0 := by simpa using h.2
    unfold firstIdx
    rw [firstIdx_zeros (n := n) h.1, if_pos h2]
theorem firstIdx_hit {p : Nat → Int} {k : Nat} (h : zerosTo k p = true) (hk : p k ≠ 0) : ∀ {n : Nat}, k < n → firstIdx n p = some k
  | 0, h0 => absurd h0 (Nat.not_lt_zero _)
  | n + 1, hn => by
    unfold firstIdx
    by_cases e : k = n
    · subst e
      rw [firstIdx_zeros h, if_neg hk]
    · rw [firstIdx_hit h hk (n := n) (by omega)]
theorem firstIdx_succ (n : Nat) (p : Nat → Int) : firstIdx (n + 1) p = match firstIdx n p with | some i => some i | none => if p n = 0 then none else some n := rfl
theorem firstIdx_ne {p : Nat → Int} : ∀ (n : Nat) {i : Nat}, firstIdx n p = some i → p i ≠ 0
  | 0, _, h => by cases h
  | n + 1, i, h => by
    rw [firstIdx_succ] at h
    cases hq : firstIdx n p with
    | some k =>
      rw [hq] at h
      simp only [Option.some.injEq] at h
      subst h
      exact firstIdx_ne n hq
    | none =>
      rw [hq] at h
      by_cases h0 : p n = 0
      · simp [h0] at h
      · simp [h0] at h
        subst h
        exact h0
theorem firstTo_succ (n : Nat) (p : Nat → Int) : firstTo (n + 1) p = if firstTo n p = 0 then p n else firstTo n p := rfl
theorem firstIdx_to {p : Nat → Int} : ∀ (n : Nat), firstTo n p = match firstIdx n p with | some i => p i | none => 0
  | 0 => rfl
  | n + 1 => by
    rw [firstTo_succ, firstIdx_to n, firstIdx_succ]
    cases hq : firstIdx n p with
    | some i =>
      have hne : p i ≠ 0 := firstIdx_ne n hq
      simp only [hne, if_false]
    | none =>
      simp only [if_true]
      by_cases h : p n = 0
      · rw [if_pos h, h]
      · rw [if_neg h]

/-- What the looks at the places find. -/
def placeO (x : Book) (y : Want) : Option Value :=
  match firstIdx y.uses.length (mayC x y) with
  | some i => some (aboutV (gu y.uses i).name (reasonV (mayC x y i)))
  | none => match firstIdx y.uses.length (amtAt x y) with
    | some i => some (aboutV (gu y.uses i).name (reasonV (amtAt x y i)))
    | none => none
/-- What all looks find. -/
def looksO (x : Book) (y : Want) : Option Value :=
  if bookB x then (if wantB y && knowsB x y then (if 0 ≤ partI x.parts y.number then some (if sameB (gq x.parts (partI x.parts y.number).toNat).want y then reasonV 0 else reasonV 3)
    else if y.number ≤ x.seen then some (reasonV 4)
    else if 6 ≤ x.parts.length then some (reasonV 5) else if usedB (countsTo x x.parts.length) y then some (reasonV 6) else if crossI (countsTo x x.parts.length) y then some (reasonV 7)
    else if pairsB x.foes y.stuffs then placeO x y else some (reasonV 8)) else some (reasonV 2)) else some (reasonV 1)

/-- A finding and its code. -/
def CodeIs (o : Option Value) (c : Int) : Prop := (o = none ∧ c = 0) ∨ o = some (reasonV c) ∨ ∃ s, o = some (aboutV s (reasonV c))

theorem placeO_code (x : Book) (y : Want) : CodeIs (placeO x y) (if firstTo y.uses.length (mayC x y) = 0 then amountsC x y else firstTo y.uses.length (mayC x y)) := by
  unfold amountsC placeO
  rw [firstIdx_to y.uses.length (p := mayC x y), firstIdx_to y.uses.length (p := amtAt x y)]
  cases h1 : firstIdx y.uses.length (mayC x y) with
  | some i =>
    have := firstIdx_ne _ h1
    simp only [this, if_false]
    exact Or.inr (Or.inr ⟨_, rfl⟩)
  | none =>
    simp only [if_true]
    cases h2 : firstIdx y.uses.length (amtAt x y) with
    | some i => exact Or.inr (Or.inr ⟨_, rfl⟩)
    | none => exact Or.inl ⟨rfl, rfl⟩

theorem used_same (x : Book) (y : Want) : usedB (countsTo x x.parts.length) y = usedByB x y := by
  apply bool_eq_of_iff
  unfold usedB usedByB
  simp only [anyTo_iff, shareB_iff, decide_eq_true_eq, (counts_pos x _ _).1]
  constructor
  · rintro ⟨i, hi, j, hj, h⟩
    refine ⟨j, hj, i, by rw [usesN_len]; exact hi, ?_⟩
    have : gs (usesN y) i = (gu y.uses i).name := by
      have h1 := usesN_at hi
      rw [List.getElem?_eq_getElem (by rw [usesN_len]; exact hi)] at h1
      rw [gs_lt (by rw [usesN_len]; exact hi)]
      exact Option.some.inj h1
    rw [this]; exact h
  · rintro ⟨j, hj, i, hi, h⟩
    rw [usesN_len] at hi
    refine ⟨i, hi, j, hj, ?_⟩
    have : gs (usesN y) i = (gu y.uses i).name := by
      have h1 := usesN_at hi
      rw [List.getElem?_eq_getElem (by rw [usesN_len]; exact hi)] at h1
      rw [gs_lt (by rw [usesN_len]; exact hi)]
      exact Option.some.inj h1
    rw [← this]; exact h

theorem cross_same (x : Book) (y : Want) : crossI (countsTo x x.parts.length) y = crossedB x y := by
  apply bool_eq_of_iff
  unfold crossI crossedB crossB
  simp only [Bool.or_eq_true, anyTo_iff, shareB_iff, decide_eq_true_eq, (counts_pos x _ _).2.1, (counts_pos x _ _).2.2]
  constructor
  · rintro (⟨i, hi, (⟨j, hj, h⟩ | ⟨j, hj, h⟩)⟩ | ⟨i, hi, j, hj, h⟩)
    · exact ⟨j, hj, Or.inl (Or.inl ⟨i, hi, h⟩)⟩
    · exact ⟨j, hj, Or.inl (Or.inr ⟨i, hi, h⟩)⟩
    · exact ⟨j, hj, Or.inr ⟨i, hi, h⟩⟩
  · rintro ⟨j, hj, ((⟨i, hi, h⟩ | ⟨i, hi, h⟩) | ⟨i, hi, h⟩)⟩
    · exact Or.inl ⟨i, hi, Or.inl ⟨j, hj, h⟩⟩
    · exact Or.inl ⟨i, hi, Or.inr ⟨j, hj, h⟩⟩
    · exact Or.inr ⟨i, hi, j, hj, h⟩

theorem clash_same {x : Book} (h : foesOkB x.foes = true) (ss : List ByteArray) : clashesB x.foes ss ss = !pairsB x.foes ss := by
  rw [pairs_same h]
  rfl

theorem looks_code (x : Book) (y : Want) : CodeIs (looksO x y) (codeC x y) := by
  unfold looksO
  cases hb : bookB x with
  | false => rw [codeC_book hb]; exact Or.inr (Or.inl rfl)
  | true =>
  simp only [if_true]
  cases hw : wantB y && knowsB x y with
  | false => rw [codeC_want hb hw]; exact Or.inr (Or.inl rfl)
  | true =>
  simp only [if_true]
  rw [Bool.and_eq_true] at hw
  rw [codeC_number hb hw.1 hw.2]
  rcases partI_cases x.parts y.number with ⟨hpn, -⟩ | ⟨j, hj, hpj, -, -⟩
  case inr =>
    rw [numberC_at hpj, hpj, if_pos (by omega)]
    simp only [Int.toNat_natCast]
    by_cases hq : sameB (gq x.parts j).want y = true
    · rw [if_pos hq, if_pos hq]; exact Or.inr (Or.inl rfl)
    · rw [if_neg hq, if_neg hq]; exact Or.inr (Or.inl rfl)
  case inl =>
  rw [numberC_none hpn, hpn, if_neg (by omega)]
  by_cases h1 : y.number ≤ x.seen
  · rw [if_pos h1, if_pos h1]; exact Or.inr (Or.inl rfl)
  rw [if_neg h1, if_neg h1]
  unfold laterC
  by_cases h2 : 6 ≤ x.parts.length
  · rw [if_pos h2, if_pos h2]; exact Or.inr (Or.inl rfl)
  rw [if_neg h2, if_neg h2, used_same, cross_same]
  cases usedByB x y with
  | true => exact Or.inr (Or.inl rfl)
  | false =>
  simp only [Bool.false_eq_true, if_false]
  cases crossedB x y with
  | true => exact Or.inr (Or.inl rfl)
  | false =>
  simp only [Bool.false_eq_true, if_false]
  unfold stuffsC
  rw [clash_same (bookB_parts hb).2.2]
  cases pairsB x.foes y.stuffs with
  | false =>
    simp only [Bool.not_false, if_true, Bool.false_eq_true, if_false]
    exact Or.inr (Or.inl rfl)
  | true =>
  simp only [Bool.not_true, Bool.false_eq_true, if_false, if_true]
  have hp := placeO_code x y
  cases k1 : y.kind == 1 with
  | true =>
    have e : mayC x y = mayAt x y := by funext i; unfold mayC; rw [k1]; rfl
    rw [e] at hp
    simp only [if_true]
    exact hp
  | false =>
    have e : firstTo y.uses.length (mayC x y) = 0 := firstTo_zeros (allTo_iff.2 fun i _ => by unfold mayC; rw [k1]; rfl)
    rw [e] at hp
    simp only [Bool.false_eq_true, if_false, if_true] at hp ⊢
    exact hp

end Go.Proofs.YtfmhkicncgccjaaGreatDoor
