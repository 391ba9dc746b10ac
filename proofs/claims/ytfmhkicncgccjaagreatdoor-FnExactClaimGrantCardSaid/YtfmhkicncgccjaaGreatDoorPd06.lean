/- Joined: BkSA, CdP. -/
import Derived.Test.YtfmhkicncgccjaaGreatDoorPc07
import Derived.Test.YtfmhkicncgccjaaGreatDoorPd01
/- What the specification's ClaimBookOk answers. -/
namespace Go.Proofs.YtfmhkicncgccjaaGreatDoor
open Go.RowKit Go.Sort
set_option linter.unusedSimpArgs false
set_option linter.unusedVariables false

/-- A spot at its place. -/
def spotAtB (x : Book) (k : Nat) : Bool := spotOkB x.foes (gp x.spots k) && (k == 0 || ltS (gp x.spots (k - 1)).name (gp x.spots k).name)
/-- A book is ok, as the specification asks. -/
def bookB (x : Book) : Bool :=
  foesOkB x.foes && decide ((x.spots.length : Int) ≤ 8) && namesB x.valves 12 && inB x.seen 0 1000000 && allTo x.spots.length (spotAtB x) && partsOkB x

theorem bookB_spot {x : Book} (k : Nat) (hk : k < x.spots.length) (h : spotAtB x k = false) : bookB x = false := by unfold bookB; rw [allTo_false k hk h]; simp
theorem bookB_last {x : Book} (h1 : foesOkB x.foes = true) (h2 : decide ((x.spots.length : Int) ≤ 8) = true) (h3 : namesB x.valves 12 = true) (h4 : inB x.seen 0 1000000 = true) (h5 : allTo x.spots.length (spotAtB x) = true) : bookB x = partsOkB x := by
  unfold bookB; rw [h1, h2, h3, h4, h5]; rfl
theorem leastFit_of {x : Book} (h : allTo x.spots.length (spotAtB x) = true) : LeastFit x := by
  intro s hs
  obtain ⟨j, hj, rfl⟩ := List.getElem_of_mem hs
  have := allTo_iff.1 h j hj
  unfold spotAtB at this
  rw [gp_lt hj] at this
  simp only [Bool.and_eq_true] at this
  have h2 := this.1
  unfold spotOkB inB at h2
  simp only [Bool.and_eq_true, decide_eq_true_eq] at h2
  omega

set_option maxRecDepth 100000 in
set_option maxHeartbeats 8000000 in
theorem specBookOk_any (x : Book) (af ap av aq : Option Addr) (cf cp cv cq : Nat) (w : World) (hx : BookIn w x af ap av aq) (fx : BookFit x) :
    Calls Tryz.prog 23 #[bookV x af ap av aq cf cp cv cq] w fun e w' => e = .returned (.bool (bookB x)) ∧ Below w.heap.size w w' := by
  have hl := fx.spots.len
  unfold maxLen at hl
  unfold bookV
  have b0 : Below w.heap.size w (w.alloc (.cells #[.slice af x.foes.length cf, .slice ap x.spots.length cp, .slice av x.valves.length cv, .slice aq x.parts.length cq, .int .i64 x.seen] 38)) := (Below.refl _ _).alloc (Nat.le_refl _) _
  have i0 : Row (w.alloc (.cells #[.slice af x.foes.length cf, .slice ap x.spots.length cp, .slice av x.valves.length cv, .slice aq x.parts.length cq, .int .i64 x.seen] 38)) w.heap.size 38 (bookL x af ap av aq cf cp cv cq) := Row.new w _ _
  go_enter Tryz.func23, Tryz.ntmps23
  go_wp2_with fail
  refine (l2FoesOk_any x af ap av aq cf cp cv cq _ (hx.later b0).foes fx.foes).mono ?_
  rintro e w1 ⟨rfl, hb⟩
  have b1 := b0.trans (hb.mono b0.size)
  have i1 := i0.later hb
  clear b0 i0 hb
  cases h1 : foesOkB x.foes with
  | false =>
    go_wp2
    go_ret
    exact ⟨ret_bool (by simp [bookB, h1]), b1⟩
  | true =>
  have y1 := i1.cell 1 rfl
  by_cases h2 : (8 : Int) < x.spots.length
  · go_wp2
    go_ret
    refine ⟨ret_bool ?_, b1⟩
    unfold bookB
    rw [decide_eq_false (by omega)]
    simp
  have y2 := i1.cell 2 rfl
  have y4 := i1.cell 4 rfl
  go_wp2_with fail
  refine (l1NamesOk_any av cv x.valves 12 _ (hx.later b1).valves fx.valves).mono ?_
  rintro e w2 ⟨rfl, hb⟩
  have b2 := b1.trans (hb.mono b1.size)
  have i2 := i1.later hb
  clear b1 i1 hb y1 y2 y4
  cases h3 : namesB x.valves 12 with
  | false =>
    go_wp2
    go_ret
    exact ⟨ret_bool (by simp [bookB, h3]), b2⟩
  | true =>
  have y4 := i2.cell 4 rfl
  go_wp2_with fail
  refine (l1In_any _ _ _ _).mono ?_
  rintro e w' ⟨rfl, rfl⟩
  cases h4 : inB x.seen 0 1000000 with
  | false =>
    go_wp2
    go_ret
    exact ⟨ret_bool (by simp [bookB, h4]), b2⟩
  | true =>
  clear y4
  go_wp2
  go_loopw [3] (fun i wr => ∃ (k : Nat), k ≤ x.spots.length ∧ i = .int .i64 k ∧ allTo k (spotAtB x) = true ∧ Below w2.heap.size w2 wr) (fun i _ => x.spots.length - (intOf i).toNat)
  case atStart => exact ⟨0, Nat.zero_le _, rfl, rfl, Below.refl _ _⟩
  case round wr =>
    obtain ⟨k, hk, rfl, hall, hbel⟩ := hrel
    have hbw := b2.trans (hbel.mono b2.size)
    have i3 := i2.later hbel
    have y1 := i3.cell 1 rfl
    by_cases hlt : k < x.spots.length
    case neg =>
      have hkk : k = x.spots.length := by omega
      have hallk := hall
      rw [hkk] at hallk
      have hlf := leastFit_of hallk
      have HL : Hid (bookB x = partsOkB x) := bookB_last h1 (decide_eq_true (by omega)) h3 h4 hallk
      have y0 := i3.cell 0 rfl
      have y2 := i3.cell 2 rfl
      have y3 := i3.cell 3 rfl
      have y4 := i3.cell 4 rfl
      clear hkk hallk
      go_wp2_with fail
      refine (l2PartsOk_any x af ap av aq cf cp cv cq _ (hx.later hbw) fx hlf).mono ?_
      rintro e w5 ⟨rfl, hb⟩
      go_wp2
      go_ret
      exact ⟨ret_bool HL.out.symm, hbw.trans (hb.mono hbw.size)⟩
    obtain ⟨b, o, m, c, ha, hb, hc0, hc1, hc2, hc3, hc4, hst⟩ := (hx.later hbw).spots.at hlt
    have hfs := fx.spots.names _ (gp_mem hlt)
    subst ha
    have e0 := cell_regrown (i3.cell 0 rfl)
    have e1 := cell_regrown y1
    have e2 := cell_regrown (i3.cell 2 rfl)
    have e3 := cell_regrown (i3.cell 3 rfl)
    have e4 := cell_regrown (i3.cell 4 rfl)
    have d0 := cell_regrown hc0
    have d1 := cell_regrown hc1
    have d2 := cell_regrown hc2
    have d3 := cell_regrown hc3
    have d4 := cell_regrown hc4
    have hcall := fun d os => Calls.regrown_of (w := wr) (l2SpotOk_any x af (some ⟨b, o, none⟩) av aq cf cp cv cq (gp x.spots k) m c (grow (redrawn wr d) os) (hx.later (hbw.trans ((below_regrown wr d os).mono hbw.size))).foes fx.foes.len (hst.later (below_regrown wr d os)) hfs)
    unfold bookV spotV at hcall
    have hlt2 : (k : Int) < x.spots.length := by omega
    clear hc0 hc1 hc2 hc3 hc4 i3
    go_wp2
    refine wp_region_quiet_below (by kernel_rfl) (by kernel_rfl) ?_
    cases hq1 : spotOkB x.foes (gp x.spots k) with
    | false =>
      rw [hq1] at hcall
      repeat (first | go_big_quiet_step (with_reducible exact hcall _ _) | quiet_step (with_reducible exact hcall _ _))
      refine wpQuiet_nil ?_
      intro w4 hw'
      obtain ⟨⟨dq, osq⟩, hw''⟩ := hw'
      have hb4 : Below wr.heap.size wr w4 := hw'' ▸ below_regrown wr dq osq
      clear hw'' hcall
      go_wp2
      go_ret
      exact ⟨ret_bool (bookB_spot k hlt (by simp [spotAtB, hq1])).symm, hbw.trans (hb4.mono hbw.size)⟩
    | true =>
    rw [hq1] at hcall
    by_cases hpos : 0 < k
    case neg =>
      repeat (first | go_big_quiet_step (with_reducible exact hcall _ _) | quiet_step (with_reducible exact hcall _ _))
      refine wpQuiet_nil ?_
      intro w4 hw'
      obtain ⟨⟨dq, osq⟩, hw''⟩ := hw'
      have hb4 : Below wr.heap.size wr w4 := hw'' ▸ below_regrown wr dq osq
      clear hw'' hcall
      have hgood : spotAtB x k = true := by
        have e1 : (k == 0) = true := by simp; omega
        unfold spotAtB; rw [hq1, e1]; rfl
      have HG : Hid (spotAtB x k = true) := hgood
      clear hgood
      go_wp2
      go_roundw
      case rel => exact ⟨k + 1, by omega, by go_num, allTo_succ hall HG.out, hbel.trans (hb4.mono hbel.size)⟩
      case measure => simp [intOf]; omega
    obtain ⟨j, hj⟩ : ∃ j, k = j + 1 := ⟨k - 1, by omega⟩
    have hkj : (k : Int) - 1 = (j : Int) := by omega
    obtain ⟨b', o', m', c', ha', hb', hn0, -⟩ := (hx.later hbw).spots.at (k := j) (by omega)
    simp only [Option.some.injEq, Addr.mk.injEq, and_true] at ha'
    obtain ⟨rfl, rfl⟩ := ha'
    have n0 := cell_regrown hn0
    have hwrap : IntKind.i64.wrap (j : Int) = j := by rw [IntKind.wrap_i64]; omega
    have hj1 : (j : Int) < x.spots.length := by omega
    have hsa : spotAtB x k = ltS (gp x.spots j).name (gp x.spots k).name := by
      have e1 : (k == 0) = false := by simp; omega
      have e2 : k - 1 = j := by omega
      unfold spotAtB; rw [hq1, e1, e2]; simp
    have HS : Hid (spotAtB x k = ltS (gp x.spots j).name (gp x.spots k).name) := hsa
    clear hsa hj
    cases hq2 : ltS (gp x.spots j).name (gp x.spots k).name with
    | false =>
      have g2 : Op.bytesLess (gp x.spots j).name.toList (gp x.spots k).name.toList = false := hq2
      repeat (first | go_big_quiet_step (with_reducible exact hcall _ _) | quiet_step (with_reducible exact hcall _ _))
      refine wpQuiet_nil ?_
      intro w4 hw'
      obtain ⟨⟨dq, osq⟩, hw''⟩ := hw'
      have hb4 : Below wr.heap.size wr w4 := hw'' ▸ below_regrown wr dq osq
      clear hw'' hcall
      go_wp2
      go_ret
      exact ⟨ret_bool (bookB_spot k hlt (by rw [HS.out]; exact hq2)).symm, hbw.trans (hb4.mono hbw.size)⟩
    | true =>
      have g2 : Op.bytesLess (gp x.spots j).name.toList (gp x.spots k).name.toList = true := hq2
      repeat (first | go_big_quiet_step (with_reducible exact hcall _ _) | quiet_step (with_reducible exact hcall _ _))
      refine wpQuiet_nil ?_
      intro w4 hw'
      obtain ⟨⟨dq, osq⟩, hw''⟩ := hw'
      have hb4 : Below wr.heap.size wr w4 := hw'' ▸ below_regrown wr dq osq
      clear hw'' hcall
      go_wp2
      go_roundw
      case rel => exact ⟨k + 1, by omega, by go_num, allTo_succ hall (by rw [HS.out]; exact hq2), hbel.trans (hb4.mono hbel.size)⟩
      case measure => simp [intOf]; omega

end Go.Proofs.YtfmhkicncgccjaaGreatDoor

/- ClaimCode as a plain function of plain data. -/
namespace Go.Proofs.YtfmhkicncgccjaaGreatDoor
open Go.RowKit Go.Sort
set_option linter.unusedSimpArgs false
set_option linter.unusedVariables false

/-- Any of some stuffs is a foe of any of others. -/
def clashesB (fs : List Foe) (xs ys : List ByteArray) : Bool := anyTo xs.length (fun i => clashB fs (gs xs i) ys)
def countTo : Nat → (Nat → Bool) → Nat
  | 0, _ => 0
  | n + 1, p => countTo n p + (if p n then 1 else 0)
theorem countTo_le (p : Nat → Bool) : ∀ n, countTo n p ≤ n
  | 0 => Nat.le_refl _
  | n + 1 => by
    have := countTo_le p n
    unfold countTo
    split <;> omega
/-- How many different names two lists have. -/
def unionN (a b : List ByteArray) : Nat := a.length + countTo b.length (fun i => !hasB a (gs b i))

/-- The place of the part of this number, -1 if there is none. -/
def partFrom (ps : List Part) (n : Int) : Nat → Nat → Int
  | _, 0 => -1
  | k, m + 1 => if (gq ps k).want.number == n then (k : Int) else partFrom ps n (k + 1) m
def partI (ps : List Part) (n : Int) : Int := partFrom ps n 0 ps.length

theorem partFrom_all {ps : List Part} {s : Int} : ∀ (n k : Nat), (∀ i, k ≤ i → i < k + n → ((gq ps i).want.number == s) = false) → partFrom ps s k n = -1
  | 0, _, _ => rfl
  | n + 1, k, h => by
    unfold partFrom
    rw [h k (Nat.le_refl _) (by omega)]
    exact partFrom_all n (k + 1) (fun i h1 h2 => h i (by omega) (by omega))
theorem partFrom_hit {ps : List Part} {s : Int} {j : Nat} : ∀ (n k : Nat), k ≤ j → j < k + n → (∀ i, k ≤ i → i < j → ((gq ps i).want.number == s) = false) → ((gq ps j).want.number == s) = true → partFrom ps s k n = j
  | 0, k, h1, h2, _, _ => by omega
  | n + 1, k, h1, h2, h, hj => by
    unfold partFrom
    by_cases e : k = j
    · subst e; rw [hj]; rfl
    · rw [h k (Nat.le_refl _) (by omega)]
      exact partFrom_hit n (k + 1) (by omega) (by omega) (fun i a b => h i (by omega) b) hj
theorem partI_hit {ps : List Part} {s : Int} {j : Nat} (hj : j < ps.length) (h : allTo j (fun i => !((gq ps i).want.number == s)) = true) (he : ((gq ps j).want.number == s) = true) : partI ps s = j :=
  partFrom_hit ps.length 0 (Nat.zero_le _) (by omega) (fun i _ hi => by simpa using allTo_iff.1 h i hi) he
theorem partI_none {ps : List Part} {s : Int} (h : allTo ps.length (fun i => !((gq ps i).want.number == s)) = true) : partI ps s = -1 :=
  partFrom_all ps.length 0 (fun i _ hi => by simpa using allTo_iff.1 h i (by omega))
theorem partI_cases (ps : List Part) (s : Int) : (partI ps s = -1 ∧ allTo ps.length (fun i => !((gq ps i).want.number == s)) = true) ∨ ∃ j, j < ps.length ∧ partI ps s = (j : Int) ∧ ((gq ps j).want.number == s) = true ∧ allTo j (fun i => !((gq ps i).want.number == s)) = true := by
  have : ∀ n, n ≤ ps.length → allTo n (fun i => !((gq ps i).want.number == s)) = true ∨ ∃ j, j < n ∧ ((gq ps j).want.number == s) = true ∧ allTo j (fun i => !((gq ps i).want.number == s)) = true := by
    intro n
    induction n with
    | zero => intro _; exact Or.inl rfl
    | succ n ih =>
      intro hn
      rcases ih (by omega) with h | ⟨j, h1, h2, h3⟩
      · cases e : ((gq ps n).want.number == s) with
        | true => exact Or.inr ⟨n, by omega, e, h⟩
        | false => exact Or.inl (allTo_succ h (by simp [e]))
      · exact Or.inr ⟨j, by omega, h2, h3⟩
  rcases this ps.length (Nat.le_refl _) with h | ⟨j, h1, h2, h3⟩
  · exact Or.inl ⟨partI_none h, h⟩
  · exact Or.inr ⟨j, h1, partI_hit h1 h3 h2, h2, h3⟩

/-- Two wants are the same. -/
def sameB (a b : Want) : Bool := a.number == b.number && a.kind == b.kind && eqSS a.stuffs b.stuffs && eqUU a.uses b.uses && eqSS a.opens b.opens && eqSS a.shuts b.shuts

/-- The first of some numbers that is not 0. -/
def firstTo : Nat → (Nat → Int) → Int
  | 0, _ => 0
  | n + 1, p => if firstTo n p = 0 then p n else firstTo n p
def zerosTo (n : Nat) (p : Nat → Int) : Bool := allTo n (fun i => p i == 0)
theorem firstTo_zeros {p : Nat → Int} : ∀ {n : Nat}, zerosTo n p = true → firstTo n p = 0
  | 0, _ => rfl
  | n + 1, h => by
    unfold zerosTo allTo at h
    rw [Bool.and_eq_true] at h
    have h1 := firstTo_zeros (n := n) h.1
    have h2 : p n = 0 := by simpa using h.2
    simp [firstTo, h1, h2]
theorem firstTo_hit {p : Nat → Int} {k : Nat} (h : zerosTo k p = true) (hk : p k ≠ 0) : ∀ {n : Nat}, k < n → firstTo n p = p k
  | 0, h0 => absurd h0 (Nat.not_lt_zero _)
  | n + 1, hn => by
    by_cases e : k = n
    · subst e
      simp [firstTo, firstTo_zeros h]
    · have := firstTo_hit h hk (n := n) (by omega)
      simp [firstTo, this, hk]
theorem zerosTo_succ {n : Nat} {p : Nat → Int} (h : zerosTo n p = true) (hn : p n = 0) : zerosTo (n + 1) p = true := allTo_succ h (by simp [hn])

/-- The spot of this name. -/
def spotOf (x : Book) (s : ByteArray) : Spot := spotAtI x.spots (spotI x.spots s)
/-- The code of what meets in a place. -/
def mayCode (fs : List Foe) (s : Spot) (y : Want) (u : Use) : Int :=
  if u.role == 2 then (if clashesB fs y.stuffs s.may then 8 else if 8 < unionN s.may y.stuffs then 5 else 0)
  else if allB s.may y.stuffs then 0 else 8
/-- The code of what is in a place. -/
def amtCode (s : Spot) (y : Want) (u : Use) : Int :=
  if u.role == 1 && decide (s.least < u.amount) then 9 else if u.role == 2 && decide (s.cap < s.most + u.amount) then 10 else if y.kind == 2 && decide (0 < s.most) then 11 else 0
def mayAt (x : Book) (y : Want) (i : Nat) : Int := mayCode x.foes (spotOf x (gu y.uses i).name) y (gu y.uses i)
def amtAt (x : Book) (y : Want) (i : Nat) : Int := amtCode (spotOf x (gu y.uses i).name) y (gu y.uses i)
def stuffsC (x : Book) (y : Want) : Int :=
  if clashesB x.foes y.stuffs y.stuffs then 8 else if y.kind == 1 then firstTo y.uses.length (mayAt x y) else 0
def amountsC (x : Book) (y : Want) : Int := firstTo y.uses.length (amtAt x y)
/-- A part uses a place of the want. -/
def usedByB (x : Book) (y : Want) : Bool := anyTo x.parts.length (fun i => shareB (usesN y) (usesN (gq x.parts i).want))
/-- A part crosses the want. -/
def crossedB (x : Book) (y : Want) : Bool := anyTo x.parts.length (fun i => crossB y (gq x.parts i).want)
/-- The code behind the looks at the book, the want and its number. -/
def laterC (x : Book) (y : Want) : Int :=
  if 6 ≤ x.parts.length then 5 else if usedByB x y then 6 else if crossedB x y then 7 else if stuffsC x y = 0 then amountsC x y else stuffsC x y
def numberC (x : Book) (y : Want) : Int :=
  if 0 ≤ partI x.parts y.number then (if sameB (gq x.parts (partI x.parts y.number).toNat).want y then 0 else 3) else if y.number ≤ x.seen then 4 else laterC x y
def codeC (x : Book) (y : Want) : Int :=
  if bookB x then (if wantB y && knowsB x y then numberC x y else 2) else 1

end Go.Proofs.YtfmhkicncgccjaaGreatDoor
