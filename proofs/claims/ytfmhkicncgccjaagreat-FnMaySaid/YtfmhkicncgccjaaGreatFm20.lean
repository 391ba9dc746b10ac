/- Joined: BkSA, CdP, StA, UpA, GpA, UpC. -/
import Derived.Test.YtfmhkicncgccjaaGreatFm18
import Derived.Test.YtfmhkicncgccjaaGreatFm19
import Derived.Test.YtfmhkicncgccjaaGreatFm14
import Derived.Test.YtfmhkicncgccjaaGreatFm01
/- What the specification's ClaimBookOk answers. -/
namespace Go.Proofs.YtfmhkicncgccjaaGreat
open Go.RowKit Go.Sort
set_option linter.unusedSimpArgs false
set_option linter.unusedVariables false

/-- A spot at its place. -/
def spotAtB (x : Book) (k : Nat) : Bool := spotOkB x.foes (gp x.spots k) && (k == 0 || ltS (gp x.spots (k - 1)).name (gp x.spots k).name)
/-- A book is ok, as the specification asks. -/
def bookB (x : Book) : Bool :=
 foesOkB x.foes && decide ((x.spots.length : Int) ≤ 8) && namesB x.valves 12 && inB x.seen 0 1000000 && allTo x.spots.length (spotAtB x) && partsOkB x

theorem bookB_spot {x : Book} (k : Nat) (hk : k < x.spots.length) (h : spotAtB x k = false) : bookB x = false := by unfold bookB; rw [allTo_false k hk h]; simp
theorem bookB_last {x : Book} (h1 : foesOkB x.foes = true) (h2 : decide ((x.spots.length : Int) ≤ 8) = true) (h3 : namesB x.valves 12 = true) (h4 : inB x.seen 0 1000000 = true) (h5 : allTo x.spots.length (spotAtB x) = true) : bookB x = partsOkB x := by
 unfold bookB; rw [h1, h2, h3, h4, h5]; rfl
theorem leastFit_of {x : Book} (h : allTo x.spots.length (spotAtB x) = true) : LeastFit x := by
 intro s hs
 obtain ⟨j, hj, rfl⟩ := List.getElem_of_mem hs
 have := allTo_iff.1 h j hj
 unfold spotAtB at this
 rw [gp_lt hj] at this
 simp only [Bool.and_eq_true] at this
 have h2 := this.1
 unfold spotOkB inB at h2
 simp only [Bool.and_eq_true, decide_eq_true_eq] at h2
 omega

set_option maxRecDepth 100000 in
set_option maxHeartbeats 8000000 in
theorem specBookOk_any (x : Book) (af ap av aq : Option Addr) (cf cp cv cq : Nat) (w : World) (hx : BookIn w x af ap av aq) (fx : BookFit x) :
 Calls Tryz.prog 19 #[bookV x af ap av aq cf cp cv cq] w fun e w' => e = .returned (.bool (bookB x)) ∧ Below w.heap.size w w' := by
 have hl := fx.spots.len
 unfold maxLen at hl
 unfold bookV
 have b0 : Below w.heap.size w (w.alloc (.cells #[.slice af x.foes.length cf, .slice ap x.spots.length cp, .slice av x.valves.length cv, .slice aq x.parts.length cq, .int .i64 x.seen] 28)) := (Below.refl _ _).alloc (Nat.le_refl _) _
 have i0 : Row (w.alloc (.cells #[.slice af x.foes.length cf, .slice ap x.spots.length cp, .slice av x.valves.length cv, .slice aq x.parts.length cq, .int .i64 x.seen] 28)) w.heap.size 28 (bookL x af ap av aq cf cp cv cq) := Row.new w _ _
 go_enter Tryz.func19, Tryz.ntmps19
 go_wp2_with fail
 refine (l2FoesOk_any x af ap av aq cf cp cv cq _ (hx.later b0).foes fx.foes).mono ?_
 rintro e w1 ⟨rfl, hb⟩
 have b1 := b0.trans (hb.mono b0.size)
 have i1 := i0.later hb
 clear b0 i0 hb
 cases h1 : foesOkB x.foes with
 | false =>
  go_wp2
  go_ret
  exact ⟨ret_bool (by simp [bookB, h1]), b1⟩
 | true =>
 have y1 := i1.cell 1 rfl
 by_cases h2 : (8 : Int) < x.spots.length
 · go_wp2
   go_ret
   refine ⟨ret_bool ?_, b1⟩
   unfold bookB
   rw [decide_eq_false (by omega)]
   simp
 have y2 := i1.cell 2 rfl
 have y4 := i1.cell 4 rfl
 go_wp2_with fail
 refine (l1NamesOk_any av cv x.valves 12 _ (hx.later b1).valves fx.valves).mono ?_
 rintro e w2 ⟨rfl, hb⟩
 have b2 := b1.trans (hb.mono b1.size)
 have i2 := i1.later hb
 clear b1 i1 hb y1 y2 y4
 cases h3 : namesB x.valves 12 with
 | false =>
  go_wp2
  go_ret
  exact ⟨ret_bool (by simp [bookB, h3]), b2⟩
 | true =>
 have y4 := i2.cell 4 rfl
 go_wp2_with fail
 refine (l1In_any _ _ _ _).mono ?_
 rintro e w' ⟨rfl, rfl⟩
 cases h4 : inB x.seen 0 1000000 with
 | false =>
  go_wp2
  go_ret
  exact ⟨ret_bool (by simp [bookB, h4]), b2⟩
 | true =>
 clear y4
 go_wp2
 go_loopw [3] (fun i wr => ∃ (k : Nat), k ≤ x.spots.length ∧ i = .int .i64 k ∧ allTo k (spotAtB x) = true ∧ Below w2.heap.size w2 wr) (fun i _ => x.spots.length - (intOf i).toNat)
 case atStart => exact ⟨0, Nat.zero_le _, rfl, rfl, Below.refl _ _⟩
 case round wr =>
  obtain ⟨k, hk, rfl, hall, hbel⟩ := hrel
  have hbw := b2.trans (hbel.mono b2.size)
  have i3 := i2.later hbel
  have y1 := i3.cell 1 rfl
  by_cases hlt : k < x.spots.length
  case neg =>
   have hkk : k = x.spots.length := by omega
   have hallk := hall
   rw [hkk] at hallk
   have hlf := leastFit_of hallk
   have HL : Hid (bookB x = partsOkB x) := bookB_last h1 (decide_eq_true (by omega)) h3 h4 hallk
   have y0 := i3.cell 0 rfl
   have y2 := i3.cell 2 rfl
   have y3 := i3.cell 3 rfl
   have y4 := i3.cell 4 rfl
   clear hkk hallk
   go_wp2_with fail
   refine (l2PartsOk_any x af ap av aq cf cp cv cq _ (hx.later hbw) fx hlf).mono ?_
   rintro e w5 ⟨rfl, hb⟩
   go_wp2
   go_ret
   exact ⟨ret_bool HL.out.symm, hbw.trans (hb.mono hbw.size)⟩
  obtain ⟨b, o, m, c, ha, hb, hc0, hc1, hc2, hc3, hc4, hst⟩ := (hx.later hbw).spots.at hlt
  have hfs := fx.spots.names _ (gp_mem hlt)
  subst ha
  have e0 := cell_regrown (i3.cell 0 rfl)
  have e1 := cell_regrown y1
  have e2 := cell_regrown (i3.cell 2 rfl)
  have e3 := cell_regrown (i3.cell 3 rfl)
  have e4 := cell_regrown (i3.cell 4 rfl)
  have d0 := cell_regrown hc0
  have d1 := cell_regrown hc1
  have d2 := cell_regrown hc2
  have d3 := cell_regrown hc3
  have d4 := cell_regrown hc4
  have hcall := fun d os => Calls.regrown_of (w := wr) (l2SpotOk_any x af (some ⟨b, o, none⟩) av aq cf cp cv cq (gp x.spots k) m c (grow (redrawn wr d) os) (hx.later (hbw.trans ((below_regrown wr d os).mono hbw.size))).foes fx.foes.len (hst.later (below_regrown wr d os)) hfs)
  unfold bookV spotV at hcall
  have hlt2 : (k : Int) < x.spots.length := by omega
  clear hc0 hc1 hc2 hc3 hc4 i3
  go_wp2
  refine wp_region_quiet_below (by kernel_rfl) (by kernel_rfl) ?_
  cases hq1 : spotOkB x.foes (gp x.spots k) with
  | false =>
   rw [hq1] at hcall
   repeat (first | go_big_quiet_step (with_reducible exact hcall _ _) | quiet_step (with_reducible exact hcall _ _))
   refine wpQuiet_nil ?_
   intro w4 hw'
   obtain ⟨⟨dq, osq⟩, hw''⟩ := hw'
   have hb4 : Below wr.heap.size wr w4 := hw'' ▸ below_regrown wr dq osq
   clear hw'' hcall
   go_wp2
   go_ret
   exact ⟨ret_bool (bookB_spot k hlt (by simp [spotAtB, hq1])).symm, hbw.trans (hb4.mono hbw.size)⟩
  | true =>
  rw [hq1] at hcall
  by_cases hpos : 0 < k
  case neg =>
   repeat (first | go_big_quiet_step (with_reducible exact hcall _ _) | quiet_step (with_reducible exact hcall _ _))
   refine wpQuiet_nil ?_
   intro w4 hw'
   obtain ⟨⟨dq, osq⟩, hw''⟩ := hw'
   have hb4 : Below wr.heap.size wr w4 := hw'' ▸ below_regrown wr dq osq
   clear hw'' hcall
   have hgood : spotAtB x k = true := by
    have e1 : (k == 0) = true := by simp; omega
    unfold spotAtB; rw [hq1, e1]; rfl
   have HG : Hid (spotAtB x k = true) := hgood
   clear hgood
   go_wp2
   go_roundw
   case rel => exact ⟨k + 1, by omega, by go_num, allTo_succ hall HG.out, hbel.trans (hb4.mono hbel.size)⟩
   case measure => simp [intOf]; omega
  obtain ⟨j, hj⟩ : ∃ j, k = j + 1 := ⟨k - 1, by omega⟩
  have hkj : (k : Int) - 1 = (j : Int) := by omega
  obtain ⟨b', o', m', c', ha', hb', hn0, -⟩ := (hx.later hbw).spots.at (k := j) (by omega)
  simp only [Option.some.injEq, Addr.mk.injEq, and_true] at ha'
  obtain ⟨rfl, rfl⟩ := ha'
  have n0 := cell_regrown hn0
  have hwrap : IntKind.i64.wrap (j : Int) = j := by rw [IntKind.wrap_i64]; omega
  have hj1 : (j : Int) < x.spots.length := by omega
  have hsa : spotAtB x k = ltS (gp x.spots j).name (gp x.spots k).name := by
   have e1 : (k == 0) = false := by simp; omega
   have e2 : k - 1 = j := by omega
   unfold spotAtB; rw [hq1, e1, e2]; simp
  have HS : Hid (spotAtB x k = ltS (gp x.spots j).name (gp x.spots k).name) := hsa
  clear hsa hj
  cases hq2 : ltS (gp x.spots j).name (gp x.spots k).name with
  | false =>
   have g2 : Op.bytesLess (gp x.spots j).name.toList (gp x.spots k).name.toList = false := hq2
   repeat (first | go_big_quiet_step (with_reducible exact hcall _ _) | quiet_step (with_reducible exact hcall _ _))
   refine wpQuiet_nil ?_
   intro w4 hw'
   obtain ⟨⟨dq, osq⟩, hw''⟩ := hw'
   have hb4 : Below wr.heap.size wr w4 := hw'' ▸ below_regrown wr dq osq
   clear hw'' hcall
   go_wp2
   go_ret
   exact ⟨ret_bool (bookB_spot k hlt (by rw [HS.out]; exact hq2)).symm, hbw.trans (hb4.mono hbw.size)⟩
  | true =>
   have g2 : Op.bytesLess (gp x.spots j).name.toList (gp x.spots k).name.toList = true := hq2
   repeat (first | go_big_quiet_step (with_reducible exact hcall _ _) | quiet_step (with_reducible exact hcall _ _))
   refine wpQuiet_nil ?_
   intro w4 hw'
   obtain ⟨⟨dq, osq⟩, hw''⟩ := hw'
   have hb4 : Below wr.heap.size wr w4 := hw'' ▸ below_regrown wr dq osq
   clear hw'' hcall
   go_wp2
   go_roundw
   case rel => exact ⟨k + 1, by omega, by go_num, allTo_succ hall (by rw [HS.out]; exact hq2), hbel.trans (hb4.mono hbel.size)⟩
   case measure => simp [intOf]; omega

end Go.Proofs.YtfmhkicncgccjaaGreat

/- ClaimCode as a plain function of plain data. -/
namespace Go.Proofs.YtfmhkicncgccjaaGreat
open Go.RowKit Go.Sort
set_option linter.unusedSimpArgs false
set_option linter.unusedVariables false

/-- Any of some stuffs is a foe of any of others. -/
def clashesB (fs : List Foe) (xs ys : List ByteArray) : Bool := anyTo xs.length (fun i => clashB fs (gs xs i) ys)
def countTo : Nat → (Nat → Bool) → Nat
 | 0, _ => 0
 | n + 1, p => countTo n p + (if p n then 1 else 0)
theorem countTo_le (p : Nat → Bool) : ∀ n, countTo n p ≤ n
 | 0 => Nat.le_refl _
 | n + 1 => by
  have := countTo_le p n
  unfold countTo
  split <;> omega
/-- How many different names two lists have. -/
def unionN (a b : List ByteArray) : Nat := a.length + countTo b.length (fun i => !hasB a (gs b i))

/-- The place of the part of this number, -1 if there is none. -/
def partFrom (ps : List Part) (n : Int) : Nat → Nat → Int
 | _, 0 => -1
 | k, m + 1 => if (gq ps k).want.number == n then (k : Int) else partFrom ps n (k + 1) m
def partI (ps : List Part) (n : Int) : Int := partFrom ps n 0 ps.length

theorem partFrom_all {ps : List Part} {s : Int} : ∀ (n k : Nat), (∀ i, k ≤ i → i < k + n → ((gq ps i).want.number == s) = false) → partFrom ps s k n = -1
 | 0, _, _ => rfl
 | n + 1, k, h => by
  unfold partFrom
  rw [h k (Nat.le_refl _) (by omega)]
  exact partFrom_all n (k + 1) (fun i h1 h2 => h i (by omega) (by omega))
theorem partFrom_hit {ps : List Part} {s : Int} {j : Nat} : ∀ (n k : Nat), k ≤ j → j < k + n → (∀ i, k ≤ i → i < j → ((gq ps i).want.number == s) = false) → ((gq ps j).want.number == s) = true → partFrom ps s k n = j
 | 0, k, h1, h2, _, _ => by omega
 | n + 1, k, h1, h2, h, hj => by
  unfold partFrom
  by_cases e : k = j
  · subst e; rw [hj]; rfl
  · rw [h k (Nat.le_refl _) (by omega)]
    exact partFrom_hit n (k + 1) (by omega) (by omega) (fun i a b => h i (by omega) b) hj
theorem partI_hit {ps : List Part} {s : Int} {j : Nat} (hj : j < ps.length) (h : allTo j (fun i => !((gq ps i).want.number == s)) = true) (he : ((gq ps j).want.number == s) = true) : partI ps s = j :=
 partFrom_hit ps.length 0 (Nat.zero_le _) (by omega) (fun i _ hi => by simpa using allTo_iff.1 h i hi) he
theorem partI_none {ps : List Part} {s : Int} (h : allTo ps.length (fun i => !((gq ps i).want.number == s)) = true) : partI ps s = -1 :=
 partFrom_all ps.length 0 (fun i _ hi => by simpa using allTo_iff.1 h i (by omega))
theorem partI_cases (ps : List Part) (s : Int) : (partI ps s = -1 ∧ allTo ps.length (fun i => !((gq ps i).want.number == s)) = true) ∨ ∃ j, j < ps.length ∧ partI ps s = (j : Int) ∧ ((gq ps j).want.number == s) = true ∧ allTo j (fun i => !((gq ps i).want.number == s)) = true := by
 have : ∀ n, n ≤ ps.length → allTo n (fun i => !((gq ps i).want.number == s)) = true ∨ ∃ j, j < n ∧ ((gq ps j).want.number == s) = true ∧ allTo j (fun i => !((gq ps i).want.number == s)) = true := by
  intro n
  induction n with
  | zero => intro _; exact Or.inl rfl
  | succ n ih =>
   intro hn
   rcases ih (by omega) with h | ⟨j, h1, h2, h3⟩
   · cases e : ((gq ps n).want.number == s) with
     | true => exact Or.inr ⟨n, by omega, e, h⟩
     | false => exact Or.inl (allTo_succ h (by simp [e]))
   · exact Or.inr ⟨j, by omega, h2, h3⟩
 rcases this ps.length (Nat.le_refl _) with h | ⟨j, h1, h2, h3⟩
 · exact Or.inl ⟨partI_none h, h⟩
 · exact Or.inr ⟨j, h1, partI_hit h1 h3 h2, h2, h3⟩

/-- Two wants are the same. -/
def sameB (a b : Want) : Bool := a.number == b.number && a.kind == b.kind && eqSS a.stuffs b.stuffs && eqUU a.uses b.uses && eqSS a.opens b.opens && eqSS a.shuts b.shuts

/-- The first of some numbers that is not 0. -/
def firstTo : Nat → (Nat → Int) → Int
 | 0, _ => 0
 | n + 1, p => if firstTo n p = 0 then p n else firstTo n p
def zerosTo (n : Nat) (p : Nat → Int) : Bool := allTo n (fun i => p i == 0)
theorem firstTo_zeros {p : Nat → Int} : ∀ {n : Nat}, zerosTo n p = true → firstTo n p = 0
 | 0, _ => rfl
 | n + 1, h => by
  unfold zerosTo allTo at h
  rw [Bool.and_eq_true] at h
  have h1 := firstTo_zeros (n := n) h.1
  have h2 : p n = 0 := by simpa using h.2
  simp [firstTo, h1, h2]
theorem firstTo_hit {p : Nat → Int} {k : Nat} (h : zerosTo k p = true) (hk : p k ≠ 0) : ∀ {n : Nat}, k < n → firstTo n p = p k
 | 0, h0 => absurd h0 (Nat.not_lt_zero _)
 | n + 1, hn => by
  by_cases e : k = n
  · subst e
    simp [firstTo, firstTo_zeros h]
  · have := firstTo_hit h hk (n := n) (by omega)
    simp [firstTo, this, hk]
theorem zerosTo_succ {n : Nat} {p : Nat → Int} (h : zerosTo n p = true) (hn : p n = 0) : zerosTo (n + 1) p = true := allTo_succ h (by simp [hn])

/-- The spot of this name. -/
def spotOf (x : Book) (s : ByteArray) : Spot := spotAtI x.spots (spotI x.spots s)
/-- The code of what meets in a place. -/
def mayCode (fs : List Foe) (s : Spot) (y : Want) (u : Use) : Int :=
 if u.role == 2 then (if clashesB fs y.stuffs s.may then 8 else if 8 < unionN s.may y.stuffs then 5 else 0)
 else if allB s.may y.stuffs then 0 else 8
/-- The code of what is in a place. -/
def amtCode (s : Spot) (y : Want) (u : Use) : Int :=
 if u.role == 1 && decide (s.least < u.amount) then 9 else if u.role == 2 && decide (s.cap < s.most + u.amount) then 10 else if y.kind == 2 && decide (0 < s.most) then 11 else 0
def mayAt (x : Book) (y : Want) (i : Nat) : Int := mayCode x.foes (spotOf x (gu y.uses i).name) y (gu y.uses i)
def amtAt (x : Book) (y : Want) (i : Nat) : Int := amtCode (spotOf x (gu y.uses i).name) y (gu y.uses i)
def stuffsC (x : Book) (y : Want) : Int :=
 if clashesB x.foes y.stuffs y.stuffs then 8 else if y.kind == 1 then firstTo y.uses.length (mayAt x y) else 0
def amountsC (x : Book) (y : Want) : Int := firstTo y.uses.length (amtAt x y)
/-- A part uses a place of the want. -/
def usedByB (x : Book) (y : Want) : Bool := anyTo x.parts.length (fun i => shareB (usesN y) (usesN (gq x.parts i).want))
/-- A part crosses the want. -/
def crossedB (x : Book) (y : Want) : Bool := anyTo x.parts.length (fun i => crossB y (gq x.parts i).want)
/-- The code behind the looks at the book, the want and its number. -/
def laterC (x : Book) (y : Want) : Int :=
 if 6 ≤ x.parts.length then 5 else if usedByB x y then 6 else if crossedB x y then 7 else if stuffsC x y = 0 then amountsC x y else stuffsC x y
def numberC (x : Book) (y : Want) : Int :=
 if 0 ≤ partI x.parts y.number then (if sameB (gq x.parts (partI x.parts y.number).toNat).want y then 0 else 3) else if y.number ≤ x.seen then 4 else laterC x y
def codeC (x : Book) (y : Want) : Int :=
 if bookB x then (if wantB y && knowsB x y then numberC x y else 2) else 1

end Go.Proofs.YtfmhkicncgccjaaGreat

/- Plain: the book behind ClaimStop; a part of an owned book is stopped. -/
namespace Go.Proofs.YtfmhkicncgccjaaGreat
open Go.RowKit Go.Sort
set_option linter.unusedSimpArgs false
set_option linter.unusedVariables false

def bookNil : Book := ⟨[], [], [], [], 0⟩
def stopAt (ps : List Part) (k : Nat) : List Part := ps.set k ⟨(gq ps k).want, true⟩
theorem stopAt_length (ps : List Part) (k : Nat) : (stopAt ps k).length = ps.length := by simp [stopAt]
theorem gq_stopAt {ps : List Part} {k : Nat} (hk : k < ps.length) (j : Nat) : gq (stopAt ps k) j = if j = k then ⟨(gq ps k).want, true⟩ else gq ps j := by
 by_cases e : j = k
 · subst e
   rw [if_pos rfl, gq_lt (by rw [stopAt_length]; exact hk)]
   simp [stopAt]
 · rw [if_neg e]
   unfold stopAt
   conv => lhs; unfold gq
   conv => rhs; unfold gq
   rw [List.getD_eq_getElem?_getD, List.getElem?_set, if_neg (fun h => e h.symm), List.getD_eq_getElem?_getD]
theorem stopAt_want {ps : List Part} {k : Nat} (hk : k < ps.length) (j : Nat) : (gq (stopAt ps k) j).want = (gq ps j).want := by
 rw [gq_stopAt hk]
 split
 · next e => rw [e]
 · rfl
theorem pL_want {p q : Part} (h : p.want = q.want) (c : Nat) : pL p c = pL q c := by
 unfold pL
 rw [h]
theorem pF_want {p q : Part} (h : p.want = q.want) (c : Nat) : pF p c = pF q c := by
 unfold pF
 rw [h]
/-- The book behind ClaimStop, and its code. -/
def stopB (x : Book) (n : Int) : Book :=
 if bookB x then (if 0 ≤ partI x.parts n then ⟨x.foes, x.spots, x.valves, stopAt x.parts (partI x.parts n).toNat, x.seen⟩ else x) else bookNil
def stopC (x : Book) (n : Int) : Int :=
 if bookB x then (if 0 ≤ partI x.parts n then 0 else 3) else 1

/-- A part is stopped, where the parts own their memory. -/
theorem OwnParts.stop {w : World} {b : Nat} {ps : List Part} {A : Nat → Nat → Option Addr} {C : Nat → Nat → Nat} (h : OwnParts w (some ⟨b, 0, none⟩) ps A C) {k : Nat} (hk : k < ps.length) :
 OwnParts (w.setCell ⟨b, k * 7 + 6, none⟩ (.bool true)) (some ⟨b, 0, none⟩) (stopAt ps k) A C := by
 have on := Only.cell w ⟨b, k * 7 + 6, none⟩ (.bool true)
 have e1 : ∀ j c, pL (gq (stopAt ps k) j) c = pL (gq ps j) c := fun j c => pL_want (stopAt_want hk j) c
 have e2 : ∀ j c, pF (gq (stopAt ps k) j) c = pF (gq ps j) c := fun j c => pF_want (stopAt_want hk j) c
 refine ⟨?_, fun j hj c hc => ?_, fun j hj c hc y hy => ?_, fun i c j d hi hc hj hd hij y hy => ?_⟩
 · rw [stopAt_length]
   refine (h.row.setAt hk (by omega : 6 < 7) (.bool true)).congr fun k' hk' j' hj' => ?_
   rw [gq_stopAt hk]
   by_cases e : k' = k
   · subst e
     simp only [if_true, true_and]
     match j', hj' with
     | 0, _ => rfl
     | 1, _ => rfl
     | 2, _ => rfl
     | 3, _ => rfl
     | 4, _ => rfl
     | 5, _ => rfl
     | 6, _ => rfl
   · simp only [e, false_and, if_false]
 · rw [stopAt_length] at hj
   rw [e1, e2]
   exact (h.list j hj c hc).only on (fun y hy e => h.apart j hj c hc y hy ⟨by omega, 0, by have e' : y = b := e; rw [e']⟩)
 · rw [stopAt_length] at hj ⊢
   rw [e1] at hy
   exact h.apart j hj c hc y hy
 · rw [stopAt_length] at hi hj
   rw [e1] at hy ⊢
   exact h.each i c j d hi hc hj hd hij y hy
theorem inPt_stop {a : Option Addr} {ps : List Part} {A : Nat → Nat → Option Addr} {k : Nat} (hk : k < ps.length) {y : Nat} : InPt a (stopAt ps k) A y ↔ InPt a ps A y := by
 unfold InPt
 rw [stopAt_length]
 constructor
 · rintro (h | ⟨j, hj, c, hc, h⟩)
   · exact Or.inl h
   · exact Or.inr ⟨j, hj, c, hc, by rw [pL_want (stopAt_want hk j)] at h; exact h⟩
 · rintro (h | ⟨j, hj, c, hc, h⟩)
   · exact Or.inl h
   · exact Or.inr ⟨j, hj, c, hc, by rw [pL_want (stopAt_want hk j)]; exact h⟩
theorem OwnBook.stop {w : World} {x : Book} {af ap av : Option Addr} {b : Nat} {A1 : Nat → Option Addr} {C1 : Nat → Nat} {A2 : Nat → Nat → Option Addr} {C2 : Nat → Nat → Nat} (h : OwnBook w x af ap av (some ⟨b, 0, none⟩) A1 C1 A2 C2) {k : Nat} (hk : k < x.parts.length) :
 OwnBook (w.setCell ⟨b, k * 7 + 6, none⟩ (.bool true)) ⟨x.foes, x.spots, x.valves, stopAt x.parts k, x.seen⟩ af ap av (some ⟨b, 0, none⟩) A1 C1 A2 C2 := by
 have on := Only.cell w ⟨b, k * 7 + 6, none⟩ (.bool true)
 have hb : InPt (some ⟨b, 0, none⟩) x.parts A2 b := Or.inl ⟨by omega, 0, rfl⟩
 refine ⟨h.foes.only on (fun y hy e => h.d03 y hy (by have e' : y = b := e; rw [e']; exact hb)), h.spots.only on (fun y hy e => h.d13 y hy (by have e' : y = b := e; rw [e']; exact hb)), h.valves.only on (fun y hy e => h.d23 y hy (by have e' : y = b := e; rw [e']; exact hb)), h.parts.stop hk, h.d01, h.d02, fun y hy hy' => h.d03 y hy ((inPt_stop hk).1 hy'), h.d12, fun y hy hy' => h.d13 y hy ((inPt_stop hk).1 hy'), fun y hy hy' => h.d23 y hy ((inPt_stop hk).1 hy')⟩
theorem ownBook_nil (w : World) : OwnBook w bookNil none none none none (fun _ => none) (fun _ => 0) (fun _ _ => none) (fun _ _ => 0) := by
 have e : ∀ y n, ¬ InSlot none n y := fun y n ⟨_, o, h⟩ => by cases h
 have s : ∀ y, ¬ InSp none bookNil.spots (fun _ => none) y := fun y h => h.elim (e y _) (fun ⟨k, _, h⟩ => e y _ h)
 have p : ∀ y, ¬ InPt none bookNil.parts (fun _ _ => none) y := fun y h => h.elim (e y _) (fun ⟨k, _, c, _, h⟩ => e y _ h)
 exact ⟨Or.inl rfl, ⟨Or.inl rfl, fun k hk => absurd hk (Nat.not_lt_zero _), fun k hk => absurd hk (Nat.not_lt_zero _), fun k hk => absurd hk (Nat.not_lt_zero _), fun i j hi => absurd hi (Nat.not_lt_zero _)⟩, Or.inl rfl, ⟨Or.inl rfl, fun k hk => absurd hk (Nat.not_lt_zero _), fun k hk => absurd hk (Nat.not_lt_zero _), fun i c j d hi => absurd hi (Nat.not_lt_zero _)⟩,
  fun y hy => absurd hy (e y _), fun y hy => absurd hy (e y _), fun y hy => absurd hy (e y _), fun y hy => absurd hy (s y), fun y hy => absurd hy (s y), fun y hy => absurd hy (e y _)⟩
theorem inBk_nil {y : Nat} : ¬ InBk bookNil none none none none (fun _ => none) (fun _ _ => none) y := by
 have e : ∀ y n, ¬ InSlot none n y := fun y n ⟨_, o, h⟩ => by cases h
 rintro (h | h | h | h)
 · exact e y _ h
 · exact h.elim (e y _) (fun ⟨k, _, h⟩ => e y _ h)
 · exact e y _ h
 · exact h.elim (e y _) (fun ⟨k, _, c, _, h⟩ => e y _ h)

/-- A call that answers a book and a code: the book owns its memory, which lies from B on. -/
def Gives (B : Nat) (y : Book) (code : Int) (e : Ending) (w' : World) : Prop :=
 ∃ (f0 f1 f2 f3 : Option Addr) (k0 k1 k2 k3 : Nat) (A1 : Nat → Option Addr) (C1 : Nat → Nat) (A2 : Nat → Nat → Option Addr) (C2 : Nat → Nat → Nat), e = .returned (.tuple #[bookV y f0 f1 f2 f3 k0 k1 k2 k3, .int .i64 code]) ∧ OwnBook w' y f0 f1 f2 f3 A1 C1 A2 C2 ∧ ∀ q, InBk y f0 f1 f2 f3 A1 A2 q → B ≤ q

end Go.Proofs.YtfmhkicncgccjaaGreat

/- Plain: places changed use by use; the book behind ClaimOver. -/
namespace Go.Proofs.YtfmhkicncgccjaaGreat
open Go.RowKit Go.Sort
set_option linter.unusedSimpArgs false
set_option linter.unusedVariables false

/-- Places changed, use by use. -/
def upTo (f : Spot → Use → Spot) (ss : List Spot) (us : List Use) : Nat → List Spot
 | 0 => ss
 | k + 1 => (upTo f ss us k).set (spotI ss (gu us k).name).toNat (f (gp (upTo f ss us k) (spotI ss (gu us k).name).toNat) (gu us k))
theorem upTo_length (f : Spot → Use → Spot) (ss : List Spot) (us : List Use) : ∀ k, (upTo f ss us k).length = ss.length
 | 0 => rfl
 | k + 1 => by unfold upTo; rw [List.length_set]; exact upTo_length f ss us k
theorem gp_set {ss : List Spot} {k : Nat} (hk : k < ss.length) (s : Spot) (j : Nat) : gp (ss.set k s) j = if j = k then s else gp ss j := by
 unfold gp
 rw [List.getD_eq_getElem?_getD, List.getD_eq_getElem?_getD, List.getElem?_set]
 by_cases e : j = k
 · subst e
   rw [if_pos rfl, if_pos rfl, if_pos hk]
   rfl
 · rw [if_neg (fun h => e h.symm), if_neg e]
theorem set_ge {ss : List Spot} {k : Nat} (hk : ss.length ≤ k) (s : Spot) : ss.set k s = ss := List.set_eq_of_length_le hk
/-- What holds of each spot and is kept by each change holds of all. -/
theorem upTo_all {f : Spot → Use → Spot} {ss : List Spot} {us : List Use} {R : Nat → Nat → Spot → Prop} (h0 : ∀ j, j < ss.length → R 0 j (gp ss j)) (h1 : ∀ k j s, k < us.length → R k j s → R (k + 1) j s) (h2 : ∀ k j s, k < us.length → R k j s → R (k + 1) j (f s (gu us k))) :
 ∀ k, k ≤ us.length → ∀ j, j < ss.length → R k j (gp (upTo f ss us k) j)
 | 0, _ => h0
 | k + 1, hk => fun j hj => by
  have ih := upTo_all h0 h1 h2 k (by omega)
  unfold upTo
  by_cases hlt : (spotI ss (gu us k).name).toNat < ss.length
  · rw [gp_set (by rw [upTo_length]; exact hlt)]
    split
    · next e =>
      subst e
      exact h2 k _ _ (by omega) (ih _ hlt)
    · exact h1 k _ _ (by omega) (ih j hj)
  · rw [set_ge (by rw [upTo_length]; omega)]
    exact h1 k _ _ (by omega) (ih j hj)
theorem spotFrom_names {ps qs : List Spot} {s : ByteArray} : ∀ (n k : Nat), (∀ i, k ≤ i → i < k + n → (gp ps i).name = (gp qs i).name) → spotFrom ps s k n = spotFrom qs s k n
 | 0, _, _ => rfl
 | n + 1, k, h => by
  unfold spotFrom
  rw [h k (Nat.le_refl _) (by omega), spotFrom_names n (k + 1) (fun i a b => h i (by omega) (by omega))]
theorem upTo_spotI {f : Spot → Use → Spot} (hf : ∀ s u, (f s u).name = s.name) (ss : List Spot) (us : List Use) {k : Nat} (hk : k ≤ us.length) (s : ByteArray) : spotI (upTo f ss us k) s = spotI ss s := by
 unfold spotI
 rw [upTo_length]
 exact spotFrom_names _ 0 (fun i _ hi => upTo_all (R := fun _ j t => t.name = (gp ss j).name) (fun j _ => rfl) (fun _ _ _ _ h => h) (fun _ _ _ _ h => (hf _ _).trans h) k hk i (by omega))

/-- A place, settled. -/
def settleS (kind moved : Int) (done : Bool) (s : Spot) (u : Use) : Spot :=
 ⟨s.name, s.cap, if u.role = 1 then s.least + u.amount - moved else if u.role = 2 then s.least + moved else s.least,
  if u.role = 1 then s.most - moved else if u.role = 2 then s.most - u.amount + moved else s.most, if kind = 2 ∧ done = true then [] else s.may⟩
/-- So much can have been moved. -/
def movedB (y : Want) (moved : Int) : Bool := decide (0 ≤ moved) && allTo y.uses.length (fun i => (gu y.uses i).role == 3 || decide (moved ≤ (gu y.uses i).amount))
def overAt (x : Book) (j : Nat) (moved : Int) (done : Bool) : Book :=
 ⟨x.foes, upTo (settleS (gq x.parts j).want.kind moved done) x.spots (gq x.parts j).want.uses (gq x.parts j).want.uses.length, x.valves, x.parts.eraseIdx j, x.seen⟩
/-- Levels of which sums can be made. -/
def Lv (K : Int) (s : Spot) : Prop := -K ≤ s.least ∧ s.least ≤ K ∧ -K ≤ s.most ∧ s.most ≤ K
theorem settle_lv {K : Int} {kind moved : Int} {done : Bool} {s : Spot} {u : Use} (h : Lv K s) (h0 : 0 ≤ moved) (hu : u.role = 3 ∨ moved ≤ u.amount) (h1 : u.amount ≤ 1000) : Lv (K + 1000) (settleS kind moved done s u) := by
 unfold Lv settleS at *
 dsimp only
 by_cases e1 : u.role = 1
 · simp only [e1, if_true]
   rcases hu with hu | hu
   · omega
   · omega
 · by_cases e2 : u.role = 2
   · simp only [e2, if_true, if_neg (by omega : ¬ ((2 : Int) = 1))]
     rcases hu with hu | hu
     · omega
     · omega
   · simp only [e1, e2, if_false]
     omega
theorem movedB_at {y : Want} {moved : Int} (h : movedB y moved = true) {i : Nat} (hi : i < y.uses.length) : (gu y.uses i).role = 3 ∨ moved ≤ (gu y.uses i).amount := by
 unfold movedB at h
 rw [Bool.and_eq_true] at h
 have := allTo_iff.1 h.2 i hi
 simpa using this
theorem movedB_pos {y : Want} {moved : Int} (h : movedB y moved = true) : 0 ≤ moved := by
 unfold movedB at h
 rw [Bool.and_eq_true] at h
 simpa using h.1
theorem gq_erase {ps : List Part} {j : Nat} (i : Nat) : gq (ps.eraseIdx j) i = if i < j then gq ps i else gq ps (i + 1) := by
 unfold gq
 rw [List.getD_eq_getElem?_getD, List.getElem?_eraseIdx]
 split <;> rw [List.getD_eq_getElem?_getD]
theorem erase_length {ps : List Part} {j : Nat} (hj : j < ps.length) : (ps.eraseIdx j).length = ps.length - 1 := List.length_eraseIdx_of_lt hj
/-- The code of ClaimOver, and the book behind it. -/
def overC (x : Book) (n moved : Int) : Int :=
 if bookB x then (if 0 ≤ partI x.parts n then (if movedB (gq x.parts (partI x.parts n).toNat).want moved then (if (gq x.parts (partI x.parts n).toNat).stopped then 0 else 12) else 2) else 3) else 1
def overB (x : Book) (n moved : Int) (done : Bool) : Book :=
 if bookB x then (if overC x n moved = 0 then overAt x (partI x.parts n).toNat moved done else x) else bookNil

end Go.Proofs.YtfmhkicncgccjaaGreat

/- Plain: a name put into an ascending list. -/
namespace Go.Proofs.YtfmhkicncgccjaaGreat
open Go.RowKit
set_option linter.unusedSimpArgs false
set_option linter.unusedVariables false

def insS : List ByteArray → ByteArray → List ByteArray
 | [], s => [s]
 | a :: t, s => if ltS a s = true then a :: insS t s else if eqS a s = true then a :: t else s :: a :: t
theorem gs_cons_succ (a : ByteArray) (t : List ByteArray) (k : Nat) : gs (a :: t) (k + 1) = gs t k := by simp [gs]
theorem gs_cons_zero (a : ByteArray) (t : List ByteArray) : gs (a :: t) 0 = a := by simp [gs]
theorem insS_at : ∀ {l : List ByteArray} {s : ByteArray} {k : Nat}, k ≤ l.length → allTo k (fun i => ltS (gs l i) s) = true → (k < l.length → ltS (gs l k) s = false) →
 insS l s = if k < l.length ∧ eqS (gs l k) s = true then l else l.take k ++ [s] ++ l.drop k
 | [], s, k, hk, _, _ => by
  have : k = 0 := by simpa using hk
  subst this
  simp [insS]
 | a :: t, s, 0, _, _, h2 => by
  have h := h2 (by simp)
  rw [gs_cons_zero] at h
  unfold insS
  rw [h]
  simp only [Bool.false_eq_true, if_false, gs_cons_zero]
  by_cases e : eqS a s = true
  · rw [if_pos e, if_pos ⟨by simp, e⟩]
  · rw [if_neg e, if_neg (fun h => e h.2)]
    simp
 | a :: t, s, k + 1, hk, h1, h2 => by
  have ha : ltS a s = true := by
   have := allTo_iff.1 h1 0 (by omega)
   rw [gs_cons_zero] at this
   exact this
  have ih := insS_at (l := t) (s := s) (k := k) (by simpa using hk) (allTo_iff.2 fun i hi => by
   have := allTo_iff.1 h1 (i + 1) (by omega)
   rw [gs_cons_succ] at this
   exact this) (fun hlt => by
   have := h2 (by simpa using hlt)
   rw [gs_cons_succ] at this
   exact this)
  unfold insS
  rw [if_pos ha, ih, gs_cons_succ]
  by_cases e : k < t.length ∧ eqS (gs t k) s = true
  · rw [if_pos e, if_pos ⟨by simpa using e.1, e.2⟩]
  · rw [if_neg e, if_neg (fun h => e ⟨by simpa using h.1, h.2⟩)]
    simp
theorem insS_length (l : List ByteArray) (s : ByteArray) : (insS l s).length ≤ l.length + 1 := by
 induction l with
 | nil => simp [insS]
 | cons a t ih =>
  unfold insS
  split
  · simp; omega
  · split <;> simp
/-- Some names put in, one after the other. -/
def insTo (l ss : List ByteArray) (k : Nat) : List ByteArray := (ss.take k).foldl insS l
theorem insTo_zero (l ss : List ByteArray) : insTo l ss 0 = l := by simp [insTo]
theorem insTo_succ {l ss : List ByteArray} {k : Nat} (h : k < ss.length) : insTo l ss (k + 1) = insS (insTo l ss k) (gs ss k) := by
 unfold insTo
 rw [List.take_succ_eq_append_getElem h, List.foldl_append, gs_lt h]
 rfl
theorem insTo_length (l ss : List ByteArray) : ∀ k, (insTo l ss k).length ≤ l.length + k
 | 0 => by simp [insTo]
 | k + 1 => by
  by_cases h : k < ss.length
  · rw [insTo_succ h]
    have := insS_length (insTo l ss k) (gs ss k)
    have := insTo_length l ss k
    omega
  · have e : insTo l ss (k + 1) = insTo l ss k := by
     unfold insTo
     rw [List.take_of_length_le (by omega), List.take_of_length_le (by omega)]
    rw [e]
    have := insTo_length l ss k
    omega

end Go.Proofs.YtfmhkicncgccjaaGreat

/- Plain: the book behind ClaimGrant. -/
namespace Go.Proofs.YtfmhkicncgccjaaGreat
open Go.RowKit Go.Sort
set_option linter.unusedSimpArgs false
set_option linter.unusedVariables false

/-- A place, with all that may happen to it by a use. -/
def grantS (stuffs : List ByteArray) (s : Spot) (u : Use) : Spot :=
 ⟨s.name, s.cap, if u.role = 1 then s.least - u.amount else s.least, if u.role = 2 then s.most + u.amount else s.most, if u.role = 1 then s.may else insTo s.may stuffs stuffs.length⟩
def putAt (x : Book) (y : Want) : Book := ⟨x.foes, upTo (grantS y.stuffs) x.spots y.uses y.uses.length, x.valves, x.parts ++ [⟨y, false⟩], x.seen⟩
def seenAt (x : Book) (n : Int) : Book := ⟨x.foes, x.spots, x.valves, x.parts, n⟩
/-- The book behind ClaimGrant. -/
def grantB (x : Book) (y : Want) : Book :=
 if bookB x then (if (2 ≤ codeC x y ∧ codeC x y ≤ 4) ∨ 0 ≤ partI x.parts y.number then x else if codeC x y = 0 then putAt (seenAt x y.number) y else seenAt x y.number) else bookNil
theorem grant_lv {K : Int} {stuffs : List ByteArray} {s : Spot} {u : Use} (h : Lv K s) (h0 : 0 ≤ u.amount) (h1 : u.amount ≤ 1000) : Lv (K + 1000) (grantS stuffs s u) := by
 unfold Lv grantS at *
 dsimp only
 by_cases e1 : u.role = 1
 · simp only [e1, if_true, if_neg (by omega : ¬ ((1 : Int) = 2))]
   omega
 · by_cases e2 : u.role = 2
   · simp only [e2, if_true, if_neg (by omega : ¬ ((2 : Int) = 1))]
     omega
   · simp only [e1, e2, if_false]
     omega
/-- What the levels and lists are like behind k uses. -/
theorem upTo_grant {x : Book} {y : Want} (hw : wantB y = true) (hl : ∀ j, j < x.spots.length → Lv 1000 (gp x.spots j) ∧ (gp x.spots j).may.length ≤ 8) : ∀ k, k ≤ y.uses.length → ∀ j, j < x.spots.length →
 Lv (1000 + 1000 * k) (gp (upTo (grantS y.stuffs) x.spots y.uses k) j) ∧ (gp (upTo (grantS y.stuffs) x.spots y.uses k) j).may.length ≤ 8 + 8 * k := by
 have hs : y.stuffs.length ≤ 8 := by
  unfold wantB at hw
  simp only [Bool.and_eq_true] at hw
  have := namesB_len hw.1.2
  omega
 refine upTo_all (R := fun k _ s => Lv (1000 + 1000 * k) s ∧ s.may.length ≤ 8 + 8 * k) (fun j hj => by simpa using hl j hj) (fun k j s hk h => ⟨?_, by omega⟩) (fun k j s hk h => ⟨?_, ?_⟩)
 · have := h.1
   unfold Lv at this ⊢
   omega
 · have := wantB_amount hw hk
   have := grant_lv (stuffs := y.stuffs) h.1 this.1 this.2
   have e : (1000 : Int) + 1000 * k + 1000 = 1000 + 1000 * ((k + 1 : Nat) : Int) := by omega
   rwa [e] at this
 · have := h.2
   have h2 := insTo_length s.may y.stuffs y.stuffs.length
   unfold grantS
   dsimp only
   split <;> omega
theorem levels_of {x : Book} (h : bookB x = true) : ∀ j, j < x.spots.length → Lv 1000 (gp x.spots j) ∧ (gp x.spots j).may.length ≤ 8 := by
 intro j hj
 unfold bookB at h
 simp only [Bool.and_eq_true] at h
 have := allTo_iff.1 h.1.2 j hj
 unfold spotAtB at this
 rw [Bool.and_eq_true] at this
 have h2 := this.1
 unfold spotOkB inB at h2
 simp only [Bool.and_eq_true, decide_eq_true_eq] at h2
 have h3 := namesB_len h2.1.2
 unfold Lv
 omega
theorem firstTo_or (p : Nat → Int) : ∀ n, firstTo n p = 0 ∨ ∃ i, i < n ∧ firstTo n p = p i
 | 0 => Or.inl rfl
 | n + 1 => by
  show (if firstTo n p = 0 then p n else firstTo n p) = 0 ∨ ∃ i, i < n + 1 ∧ (if firstTo n p = 0 then p n else firstTo n p) = p i
  rcases firstTo_or p n with h | ⟨i, hi, h⟩
  · rw [if_pos h]; exact Or.inr ⟨n, by omega, rfl⟩
  · by_cases h0 : firstTo n p = 0
    · rw [if_pos h0]; exact Or.inr ⟨n, by omega, rfl⟩
    · rw [if_neg h0]; exact Or.inr ⟨i, by omega, h⟩
theorem laterC_vals (x : Book) (y : Want) : laterC x y = 0 ∨ (5 ≤ laterC x y ∧ laterC x y ≤ 11) := by
 have hm : ∀ i, mayAt x y i = 0 ∨ (5 ≤ mayAt x y i ∧ mayAt x y i ≤ 11) := fun i => by
  unfold mayAt mayCode
  split
  · split
    · omega
    · split <;> omega
  · split <;> omega
 have ha : ∀ i, amtAt x y i = 0 ∨ (5 ≤ amtAt x y i ∧ amtAt x y i ≤ 11) := fun i => by
  unfold amtAt amtCode
  split
  · omega
  · split
    · omega
    · split <;> omega
 have hs : stuffsC x y = 0 ∨ (5 ≤ stuffsC x y ∧ stuffsC x y ≤ 11) := by
  unfold stuffsC
  split
  · omega
  · split
    · rcases firstTo_or (mayAt x y) y.uses.length with h | ⟨i, _, h⟩
      · exact Or.inl h
      · rw [h]; exact hm i
    · exact Or.inl rfl
 have hq : amountsC x y = 0 ∨ (5 ≤ amountsC x y ∧ amountsC x y ≤ 11) := by
  unfold amountsC
  rcases firstTo_or (amtAt x y) y.uses.length with h | ⟨i, _, h⟩
  · exact Or.inl h
  · rw [h]; exact ha i
 unfold laterC
 split
 · omega
 · split
   · omega
   · split
     · omega
     · split
       · exact hq
       · exact hs
/-- The ways of a code, where the book is ok. -/
theorem code_ways {x : Book} {y : Want} (h : bookB x = true) : codeC x y ≠ 1 ∧ 0 ≤ codeC x y ∧ codeC x y ≤ 11 ∧
 ((((2 ≤ codeC x y ∧ codeC x y ≤ 4) ∨ 0 ≤ partI x.parts y.number) ∧ codeC x y ≤ 4) ∨
  (¬ ((2 ≤ codeC x y ∧ codeC x y ≤ 4) ∨ 0 ≤ partI x.parts y.number) ∧ ((codeC x y = 0 ∧ wantB y = true ∧ knowsB x y = true) ∨ 5 ≤ codeC x y))) := by
 have hl := laterC_vals x y
 unfold codeC
 rw [h]
 simp only [if_true]
 cases hw : (wantB y && knowsB x y) with
 | false =>
  simp only [Bool.false_eq_true, if_false]
  exact ⟨by omega, by omega, by omega, Or.inl ⟨Or.inl ⟨by omega, by omega⟩, by omega⟩⟩
 | true =>
  rw [Bool.and_eq_true] at hw
  simp only [if_true]
  unfold numberC
  by_cases hp : 0 ≤ partI x.parts y.number
  · rw [if_pos hp]
    split
    · exact ⟨by omega, by omega, by omega, Or.inl ⟨Or.inr hp, by omega⟩⟩
    · exact ⟨by omega, by omega, by omega, Or.inl ⟨Or.inr hp, by omega⟩⟩
  · rw [if_neg hp]
    split
    · exact ⟨by omega, by omega, by omega, Or.inl ⟨Or.inl ⟨by omega, by omega⟩, by omega⟩⟩
    · refine ⟨by omega, by omega, by omega, Or.inr ⟨by omega, ?_⟩⟩
      rcases hl with h0 | h0
      · exact Or.inl ⟨h0, hw.1, hw.2⟩
      · exact Or.inr h0.1
theorem bookB_small {x : Book} (h : bookB x = true) : x.foes.length ≤ 12 ∧ x.spots.length ≤ 8 ∧ x.valves.length ≤ 12 ∧ x.parts.length ≤ 6 := by
 unfold bookB at h
 simp only [Bool.and_eq_true, decide_eq_true_eq] at h
 obtain ⟨⟨⟨⟨⟨h1, h2⟩, h3⟩, h4⟩, h5⟩, h6⟩ := h
 have e3 := namesB_len h3
 unfold foesOkB at h1
 unfold partsOkB at h6
 rw [Bool.and_eq_true] at h1 h6
 have e1 := of_decide_eq_true h1.1
 have e6 := of_decide_eq_true h6.1
 omega
theorem wantB_small {y : Want} (hw : wantB y = true) : y.stuffs.length ≤ 8 ∧ y.uses.length ≤ 8 ∧ y.opens.length ≤ 12 ∧ y.shuts.length ≤ 12 := by
 unfold wantB at hw
 simp only [Bool.and_eq_true] at hw
 have h1 := usesS_len hw.1.1.1.1.1.1.1.2
 have h4 := namesB_len hw.1.1.1.1.1.1.2
 have h5 := namesB_len hw.1.1.1.1.1.2
 have h8 := namesB_len hw.1.2
 omega
theorem wantB_room {y : Want} (hw : wantB y = true) : WantRoom y := by
 have := wantB_small hw
 exact ⟨by omega, by omega, by omega, by omega⟩
theorem mem_upTo {f : Spot → Use → Spot} {ss : List Spot} {us : List Use} {k : Nat} {s : Spot} (h : s ∈ upTo f ss us k) : ∃ j, j < ss.length ∧ s = gp (upTo f ss us k) j := by
 obtain ⟨j, hj, rfl⟩ := List.mem_iff_getElem.1 h
 rw [upTo_length] at hj
 exact ⟨j, hj, by rw [gp_lt (by rw [upTo_length]; exact hj)]⟩
/-- The room of what is put in. -/
theorem putAt_room {x : Book} {y : Want} (hb : bookB x = true) (R : BookRoom x) (hw : wantB y = true) : BookRoom (putAt (seenAt x y.number) y) := by
 have hs := bookB_small hb
 refine ⟨R.foes, ?_, fun s hs' => ?_, R.valves, ?_, fun p hp => ?_⟩
 · show (upTo _ x.spots _ _).length ≤ _
   rw [upTo_length]; omega
 · obtain ⟨j, hj, rfl⟩ := mem_upTo hs'
   have := (upTo_grant hw (levels_of hb) y.uses.length (Nat.le_refl _) j hj).2
   have := wantB_small hw
   show (gp (upTo (grantS y.stuffs) x.spots y.uses y.uses.length) j).may.length ≤ _
   omega
 · show (x.parts ++ [_]).length ≤ _
   simp; omega
 · rcases List.mem_append.1 hp with h | h
   · exact R.wants p h
   · rw [List.mem_singleton.1 h]; exact wantB_room hw
theorem seenAt_room {x : Book} (R : BookRoom x) (n : Int) : BookRoom (seenAt x n) := ⟨R.foes, R.spots, R.mays, R.valves, R.parts, R.wants⟩

theorem OwnBook.seen {w : World} {x : Book} {af ap av aq : Option Addr} {A1 : Nat → Option Addr} {C1 : Nat → Nat} {A2 : Nat → Nat → Option Addr} {C2 : Nat → Nat → Nat} (h : OwnBook w x af ap av aq A1 C1 A2 C2) (n : Int) : OwnBook w (seenAt x n) af ap av aq A1 C1 A2 C2 :=
 ⟨h.foes, h.spots, h.valves, h.parts, h.d01, h.d02, h.d03, h.d12, h.d13, h.d23⟩

end Go.Proofs.YtfmhkicncgccjaaGreat

