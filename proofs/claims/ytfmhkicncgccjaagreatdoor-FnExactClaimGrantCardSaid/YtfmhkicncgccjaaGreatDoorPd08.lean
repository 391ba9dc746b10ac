/- Joined: BkI1, BkP, BkQ, BkR. -/
import Derived.Test.YtfmhkicncgccjaaGreatDoorPd06
import Derived.Test.YtfmhkicncgccjaaGreatDoorPd03
import Derived.Test.YtfmhkicncgccjaaGreatDoorPd01
import Derived.Test.YtfmhkicncgccjaaGreatDoorPd04
/- What the program's foesOk answers. -/
namespace Go.Proofs.YtfmhkicncgccjaaGreatDoor
open Go.RowKit Go.Sort
set_option linter.unusedSimpArgs false
set_option linter.unusedVariables false

theorem bytesLess_irrefl : ∀ l : List UInt8, Op.bytesLess l l = false
  | [] => rfl
  | a :: l => by simp [Op.bytesLess, bytesLess_irrefl l]
theorem ltS_of_eqS {s t : ByteArray} (h : eqS s t = true) : ltS s t = false := by
  unfold eqS at h
  have e : s.toList = t.toList := by simpa using h
  unfold ltS
  rw [e]
  exact bytesLess_irrefl _

set_option maxHeartbeats 400000 in
theorem foesOk1_any (f g : Foe) (w : World) :
    Calls Tryz.prog 169 #[foeV f, foeV g] w fun e w' => e = .returned (.bool (foeAsc f g)) ∧ Below w.heap.size w w' := by
  unfold foeV
  have b0 : Below w.heap.size w ((w.alloc (.cells #[.string f.a, .string f.b] 105)).alloc (.cells #[.string g.a, .string g.b] 105)) := ((Below.refl _ _).alloc (Nat.le_refl _) _).alloc (by simp) _
  cases h1 : ltS f.a g.a with
  | true =>
    have h1' : Op.bytesLess f.a.toList g.a.toList = true := h1
    go_enter Tryz.func169, Tryz.ntmps169
    go_wp2
    go_ret
    exact ⟨ret_bool (by simp [foeAsc, h1]), b0⟩
  | false =>
    have h1' : Op.bytesLess f.a.toList g.a.toList = false := h1
    cases h2 : eqS f.a g.a with
    | true =>
      have h2' : (f.a.toList == g.a.toList) = true := h2
      go_enter Tryz.func169, Tryz.ntmps169
      go_wp2
      go_ret
      exact ⟨ret_bool (by simp [foeAsc, h1, h2]; rfl), b0⟩
    | false =>
      have h2' : (f.a.toList == g.a.toList) = false := h2
      go_enter Tryz.func169, Tryz.ntmps169
      go_wp2
      go_ret
      exact ⟨ret_bool (by simp [foeAsc, h1, h2]), b0⟩

def ascFB (fs : List Foe) : Bool := allTo fs.length (fun k => k == 0 || foeAsc (gf fs (k - 1)) (gf fs k))

set_option maxHeartbeats 1000000 in
theorem ascendingF_any (a : Option Addr) (cap : Nat) (us : List Foe) (w : World) (hm : FoesAt w a us) (hl : us.length ≤ maxLen) :
    Calls Tryz.prog 168 #[.slice a us.length cap, .func (.func 169) #[] #[]] w fun e w' => e = .returned (.bool (ascFB us)) ∧ Below w.heap.size w w' := by
  unfold maxLen at hl
  go_enter Tryz.func168, Tryz.ntmps168
  go_wp2
  go_loopw [5] (fun i wr => ∃ (k : Nat), (k ≤ us.length ∨ k = 1) ∧ 1 ≤ k ∧ i = .int .i64 k ∧ allTo k (fun k => k == 0 || foeAsc (gf us (k - 1)) (gf us k)) = true ∧ Below w.heap.size w wr) (fun i _ => us.length - (intOf i).toNat)
  case atStart => exact ⟨1, Or.inr rfl, Nat.le_refl _, rfl, rfl, Below.refl _ _⟩
  case round wr =>
    obtain ⟨k, hk, hk1, rfl, hall, hbel⟩ := hrel
    by_cases hlt : k < us.length
    · obtain ⟨j, rfl⟩ : ∃ j, k = j + 1 := ⟨k - 1, by omega⟩
      obtain ⟨b, o, ha, hb, hc10, hc11⟩ := (hm.later hbel).at hlt
      obtain ⟨b', o', ha', hb', hc20, hc21⟩ := (hm.later hbel).at (k := j) (by omega)
      subst ha
      simp only [Option.some.injEq, Addr.mk.injEq, and_true] at ha'
      obtain ⟨rfl, rfl⟩ := ha'
      have r10 := cell_regrown hc10
      have r11 := cell_regrown hc11
      have r20 := cell_regrown hc20
      have r21 := cell_regrown hc21
      have hcall := fun d os => Calls.regrown_of (w := wr) (foesOk1_any (gf us j) (gf us (j + 1)) (grow (redrawn wr d) os))
      unfold foeV at hcall
      have hwrap : IntKind.i64.wrap (j : Int) = j := by rw [IntKind.wrap_i64]; omega
      have hj1 : (j : Int) < us.length := by omega
      have hj2 : (j : Int) + 1 < us.length := by omega
      have hj3 : (0 : Int) ≤ (j : Int) + 1 := by omega
      have hj4 : ((j : Int) + 1).toNat = j + 1 := by omega
      go_wp2
      refine wp_region_quiet_below (by kernel_rfl) (by kernel_rfl) ?_
      repeat (quiet_step (with_reducible exact hcall _ _))
      refine wpQuiet_nil ?_
      intro w1 hw'
      obtain ⟨⟨dq, osq⟩, hw''⟩ := hw'
      have hbel1 : Below w.heap.size w w1 := hbel.trans ((hw'' ▸ below_regrown wr dq osq).mono hbel.size)
      clear hw'' hcall r10 r11 r20 r21
      cases hq : foeAsc (gf us j) (gf us (j + 1)) with
      | true =>
        go_wp2
        go_roundw
        case rel => exact ⟨j + 1 + 1, by omega, by omega, by go_num, allTo_succ hall (by simp [hq]), hbel1⟩
        case measure => simp [intOf]; omega
      | false =>
        go_wp2
        go_ret
        exact ⟨ret_bool (allTo_false (j + 1) hlt (by simp [hq])).symm, hbel1⟩
    · go_wp2
      go_ret
      refine ⟨ret_bool ?_, hbel⟩
      refine (allTo_iff.2 fun i hi => ?_).symm
      exact allTo_iff.1 hall i (by omega)

def foeAtI (fs : List Foe) (k : Nat) : Bool := nameB (gf fs k).a && nameB (gf fs k).b && ltS (gf fs k).a (gf fs k).b

theorem foes_same (fs : List Foe) : (decide ((fs.length : Int) ≤ 12) && allTo fs.length (foeAtI fs) && ascFB fs) = foesOkB fs := by
  unfold foesOkB ascFB
  rw [Bool.and_assoc]
  congr 1
  rw [Bool.eq_iff_iff, Bool.and_eq_true, allTo_iff, allTo_iff, allTo_iff]
  have key : ∀ (f g : Foe), foeAsc f g = !((!ltS f.a g.a && !eqS f.a g.a) || eqS f.a g.a && !ltS f.b g.b) := by
    intro f g
    unfold foeAsc
    cases he : eqS f.a g.a with
    | true => rw [ltS_of_eqS he]; cases ltS f.b g.b <;> rfl
    | false => cases ltS f.a g.a <;> simp
  unfold foeAtI foeAtS
  constructor
  · rintro ⟨h1, h2⟩ i hi
    have a1 := h1 i hi
    have a2 := h2 i hi
    rw [key] at a2
    rw [a1, a2]; rfl
  · intro h
    refine ⟨fun i hi => ?_, fun i hi => ?_⟩
    · have := h i hi
      rw [Bool.and_eq_true] at this
      exact this.1
    · have := h i hi
      rw [Bool.and_eq_true] at this
      rw [key]
      exact this.2

set_option maxRecDepth 100000 in
set_option maxHeartbeats 2000000 in
theorem foesOk_any (x : Book) (af ap av aq : Option Addr) (cf cp cv cq : Nat) (w : World) (hm : FoesAt w af x.foes) (hf : FoesFit x.foes) :
    Calls Tryz.prog 141 #[bookV x af ap av aq cf cp cv cq] w fun e w' => e = .returned (.bool (foesOkB x.foes)) ∧ Below w.heap.size w w' := by
  rw [← foes_same]
  have hl := hf.len
  unfold maxLen at hl
  unfold bookV
  by_cases hmany : 12 < (x.foes.length : Int)
  · go_enter Tryz.func141, Tryz.ntmps141
    go_wp2
    go_ret
    exact ⟨ret_bool (by rw [decide_eq_false (by omega)]; rfl), (Below.refl _ _).alloc (Nat.le_refl _) _⟩
  · go_enter Tryz.func141, Tryz.ntmps141
    go_wp2
    go_loopw [4, 12] (fun _ i wr => ∃ (k : Nat), k ≤ x.foes.length ∧ i = .int .i64 k ∧ allTo k (foeAtI x.foes) = true ∧ Below (w.alloc (.cells (bookL x af ap av aq cf cp cv cq).toArray 38)).heap.size (w.alloc (.cells (bookL x af ap av aq cf cp cv cq).toArray 38)) wr) (fun _ i _ => x.foes.length - (intOf i).toNat)
    case atStart => exact ⟨0, Nat.zero_le _, rfl, rfl, Below.refl _ _⟩
    case round wr =>
      obtain ⟨k, hk, rfl, hall, hbel⟩ := hrel
      have hbw := below_over hbel
      have bk := bookRow hbel
      by_cases hlt : k < x.foes.length
      · obtain ⟨b, o, ha, hb, hc0, hc1⟩ := (hm.later hbw).at hlt
        have hsz := hf.names _ (gf_mem hlt)
        have hba : Below wr.heap.size wr (wr.alloc (.cells #[.string (gf x.foes k).a, .string (gf x.foes k).b] 105)) := (Below.refl _ _).alloc (Nat.le_refl _) _
        have frow := Row.new wr 105 [.string (gf x.foes k).a, .string (gf x.foes k).b]
        have hbela := hbel.trans (hba.mono hbel.size)
        subst ha
        go_wp2_with fail
        refine (nameOk_any (gf x.foes k).a _ hsz.1).mono ?_
        rintro e w1 ⟨rfl, hb1⟩
        have f1 := (frow.later hb1).cell 1 rfl
        have f0 := (frow.later hb1).cell 0 rfl
        have hbel1 := hbela.trans (hb1.mono hbela.size)
        cases hq1 : nameB (gf x.foes k).a with
        | false =>
          go_wp2
          go_ret
          exact ⟨ret_bool (by rw [allTo_false k hlt (by simp [foeAtI, hq1])]; simp), below_over hbel1⟩
        | true =>
        go_wp2_with fail
        refine (nameOk_any (gf x.foes k).b _ hsz.2).mono ?_
        rintro e w2 ⟨rfl, hb2⟩
        have g1 := cell_later hb2 f1
        have g0 := cell_later hb2 f0
        have hbel2 := hbel1.trans (hb2.mono hbel1.size)
        clear f0 f1 hb1 hb2 frow hba hbela
        cases hq2 : nameB (gf x.foes k).b with
        | false =>
          go_wp2
          go_ret
          exact ⟨ret_bool (by rw [allTo_false k hlt (by simp [foeAtI, hq2])]; simp), below_over hbel2⟩
        | true =>
        cases hq3 : ltS (gf x.foes k).a (gf x.foes k).b with
        | false =>
          have hq3' : Op.bytesLess (gf x.foes k).a.toList (gf x.foes k).b.toList = false := hq3
          go_wp2
          go_ret
          exact ⟨ret_bool (by rw [allTo_false k hlt (by simp [foeAtI, hq3])]; simp), below_over hbel2⟩
        | true =>
          have hq3' : Op.bytesLess (gf x.foes k).a.toList (gf x.foes k).b.toList = true := hq3
          go_wp2
          go_roundw
          case rel => exact ⟨k + 1, by omega, by go_num, allTo_succ hall (by simp [foeAtI, hq1, hq2, hq3]), hbel2⟩
          case measure => simp [intOf]; omega
      · have : k = x.foes.length := by omega
        subst this
        have y0 := bk.cell 0 rfl
        go_wp2_with fail
        refine (ascendingF_any af cf x.foes _ (hm.later hbw) hf.len).mono ?_
        rintro e w1 ⟨rfl, hb1⟩
        go_wp2
        go_ret
        exact ⟨ret_bool (by rw [hall, decide_eq_true (by omega)]; rfl), hbw.trans (hb1.mono hbw.size)⟩

end Go.Proofs.YtfmhkicncgccjaaGreatDoor

/- The program's six looks at a book, taken together, are the specification's one. -/
namespace Go.Proofs.YtfmhkicncgccjaaGreatDoor
open Go.RowKit Go.Sort
set_option linter.unusedSimpArgs false
set_option linter.unusedVariables false

/-- No part meets one ahead of it. -/
def apartB (x : Book) : Bool := allTo x.parts.length (fun i => allTo i (fun k => !meetB (gq x.parts i).want (gq x.parts k).want))

theorem foeHit_symm (f : Foe) (x y : ByteArray) : foeHit f x y = foeHit f y x := by unfold foeHit; rw [Bool.or_comm]
theorem foesB_symm (fs : List Foe) (x y : ByteArray) : foesB fs x y = foesB fs y x := by
  unfold foesB; congr 1; funext i; exact foeHit_symm _ _ _

theorem foesB_irrefl {fs : List Foe} (h : foesOkB fs = true) (x : ByteArray) : foesB fs x x = false := by
  cases e : foesB fs x x with
  | false => rfl
  | true =>
    obtain ⟨i, hi, hh⟩ := anyTo_iff.1 e
    unfold foesOkB at h
    simp only [Bool.and_eq_true] at h
    have h2 := allTo_iff.1 h.2 i hi
    unfold foeAtS at h2
    simp only [Bool.and_eq_true] at h2
    have h3 := h2.1.2
    unfold foeHit at hh
    rw [Bool.or_self, Bool.and_eq_true] at hh
    have h4 : eqS (gf fs i).a (gf fs i).b = true := by
      have e1 := hh.1
      have e2 := hh.2
      unfold eqS at e1 e2 ⊢
      rw [beq_iff_eq] at e1 e2 ⊢
      rw [e1, e2]
    rw [ltS_of_eqS h4] at h3
    exact absurd h3 (by decide)

theorem pairs_same {fs : List Foe} (h : foesOkB fs = true) (ss : List ByteArray) : pairsB fs ss = allTo ss.length (fun i => !clashB fs (gs ss i) ss) := by
  rw [Bool.eq_iff_iff]
  unfold pairsB clashB
  constructor
  · intro hp
    rw [allTo_iff] at hp ⊢
    intro i hi
    have hi' := hp i hi
    rw [Bool.not_eq_true', ← Bool.not_eq_true]
    intro ha
    obtain ⟨j, hj, hf⟩ := anyTo_iff.1 ha
    by_cases c1 : i < j
    · have := allTo_iff.1 hi' (j - (i + 1)) (by omega)
      rw [show i + 1 + (j - (i + 1)) = j by omega, hf] at this
      exact absurd this (by decide)
    · by_cases c2 : i = j
      · subst c2
        rw [foesB_irrefl h] at hf
        exact absurd hf (by decide)
      · have := allTo_iff.1 (hp j hj) (i - (j + 1)) (by omega)
        rw [show j + 1 + (i - (j + 1)) = i by omega, foesB_symm, hf] at this
        exact absurd this (by decide)
  · intro hp
    rw [allTo_iff] at hp ⊢
    intro i hi
    rw [allTo_iff]
    intro j hj
    have hi' := hp i hi
    cases e : foesB fs (gs ss i) (gs ss (i + 1 + j)) with
    | false => rfl
    | true =>
      have : anyTo ss.length (fun k => foesB fs (gs ss i) (gs ss k)) = true := anyTo_iff.2 ⟨i + 1 + j, by omega, e⟩
      rw [this] at hi'
      exact absurd hi' (by decide)

theorem levels_same (s : Spot) : levelsB s = (inB s.cap 0 1000 && inB s.least 0 s.most && decide (s.most ≤ s.cap)) := by
  unfold levelsB inB; simp only [Bool.and_assoc]

theorem spot_same {fs : List Foe} (h : foesOkB fs = true) (s : Spot) : spotAtI' fs s = spotOkB fs s := by
  unfold spotAtI' spotOkB
  rw [levels_same, pairs_same h]
  simp only [Bool.and_assoc]

theorem spots_same {x : Book} (h : foesOkB x.foes = true) : (allTo x.spots.length (fun k => spotAtI' x.foes (gp x.spots k)) && ascSB x.spots) = allTo x.spots.length (spotAtB x) := by
  rw [Bool.eq_iff_iff, Bool.and_eq_true]
  unfold ascSB spotAtB
  simp only [allTo_iff, Bool.and_eq_true, spot_same h]
  constructor
  · rintro ⟨h1, h2⟩ i hi
    exact ⟨h1 i hi, h2 i hi⟩
  · intro h1
    exact ⟨fun i hi => (h1 i hi).1, fun i hi => (h1 i hi).2⟩

theorem parts_same (x : Book) : ((decide ((x.parts.length : Int) ≤ 6) && allTo x.parts.length (fun k => partAtI x (gq x.parts k)) && ascPB x.parts) && apartB x && placesB x) = partsOkB x := by
  rw [Bool.eq_iff_iff]
  unfold partsOkB partAtB partOkB partAtI apartB placesB placesAt ascPB
  simp only [allTo_iff, Bool.and_eq_true]
  constructor
  · rintro ⟨⟨⟨⟨h1, h2⟩, h3⟩, h4⟩, h5⟩
    exact ⟨h1, fun i hi => ⟨⟨⟨⟨⟨(h2 i hi).1.2, (h2 i hi).1.1⟩, (h2 i hi).2⟩, h5 i hi⟩, h3 i hi⟩, h4 i hi⟩⟩
  · rintro ⟨h1, h2⟩
    exact ⟨⟨⟨⟨h1, fun i hi => ⟨⟨(h2 i hi).1.1.1.1.2, (h2 i hi).1.1.1.1.1⟩, (h2 i hi).1.1.1.2⟩⟩, fun i hi => (h2 i hi).1.2⟩, fun i hi => (h2 i hi).2⟩, fun i hi => (h2 i hi).1.1.2⟩

/-- The program's six looks. -/
def bookI (x : Book) : Bool :=
  foesOkB x.foes && (decide ((x.spots.length : Int) ≤ 8) && allTo x.spots.length (fun k => spotAtI' x.foes (gp x.spots k)) && ascSB x.spots) && (namesB x.valves 12 && inB x.seen 0 1000000) && (decide ((x.parts.length : Int) ≤ 6) && allTo x.parts.length (fun k => partAtI x (gq x.parts k)) && ascPB x.parts) && apartB x && placesB x

theorem book_same (x : Book) : bookI x = bookB x := by
  unfold bookI bookB
  cases h : foesOkB x.foes with
  | false => rfl
  | true =>
    rw [← spots_same h, ← parts_same]
    cases decide ((x.spots.length : Int) ≤ 8) <;> cases namesB x.valves 12 <;> cases inB x.seen 0 1000000 <;> cases allTo x.spots.length (fun k => spotAtI' x.foes (gp x.spots k)) <;> cases ascSB x.spots <;> simp

end Go.Proofs.YtfmhkicncgccjaaGreatDoor

/- The map's answers are what the parts ahead hold. -/
namespace Go.Proofs.YtfmhkicncgccjaaGreatDoor
open Go.RowKit Go.Sort
set_option linter.unusedSimpArgs false
set_option linter.unusedVariables false

theorem toList_is (s : ByteArray) : s.toList = s.data.toList := ByteArray.toList_eq s
theorem eqS_iff {s t : ByteArray} : eqS s t = true ↔ s = t := by
  unfold eqS
  rw [beq_iff_eq, toList_is, toList_is]
  exact ⟨fun h => Go.WideShapes.bytes_inj h, fun h => by rw [h]⟩

theorem hasB_iff {ss : List ByteArray} {s : ByteArray} : hasB ss s = true ↔ ∃ i, i < ss.length ∧ gs ss i = s := by
  unfold hasB
  rw [anyTo_iff]
  simp only [eqS_iff]
theorem shareB_iff {xs ys : List ByteArray} : shareB xs ys = true ↔ ∃ i, i < xs.length ∧ hasB ys (gs xs i) = true := by
  unfold shareB; rw [anyTo_iff]

theorem bumps_pos {f : Int → ByteArray → Nat} {way : Int} {ss : List ByteArray} : ∀ (k : Nat) (y : Int) (m : ByteArray), 0 < bumps f way ss k y m ↔ 0 < f y m ∨ (y = way ∧ ∃ i, i < k ∧ gs ss i = m)
  | 0, y, m => by simp [bumps]
  | k + 1, y, m => by
    have ih := bumps_pos (f := f) (way := way) (ss := ss) k y m
    unfold bumps bump
    constructor
    · intro h
      by_cases e : y = way ∧ m = gs ss k
      · exact Or.inr ⟨e.1, k, by omega, e.2.symm⟩
      · rw [if_neg e] at h
        rcases ih.1 h with h | ⟨h1, i, h2, h3⟩
        · exact Or.inl h
        · exact Or.inr ⟨h1, i, by omega, h3⟩
    · intro h
      by_cases e : y = way ∧ m = gs ss k
      · rw [if_pos e]; omega
      · rw [if_neg e]
        refine ih.2 ?_
        rcases h with h | ⟨h1, i, h2, h3⟩
        · exact Or.inl h
        · refine Or.inr ⟨h1, i, ?_, h3⟩
          have : i ≠ k := fun e1 => e ⟨h1, by rw [← h3, e1]⟩
          omega

theorem countsTo_succ (x : Book) (k : Nat) : countsTo x (k + 1) = bumps (bumps (bumps (countsTo x k) 0 (usesN (gq x.parts k).want) (gq x.parts k).want.uses.length) 1 (gq x.parts k).want.opens (gq x.parts k).want.opens.length) 2 (gq x.parts k).want.shuts (gq x.parts k).want.shuts.length := rfl

theorem counts_pos (x : Book) (m : ByteArray) : ∀ k, (0 < countsTo x k 0 m ↔ ∃ j, j < k ∧ hasB (usesN (gq x.parts j).want) m = true) ∧ (0 < countsTo x k 1 m ↔ ∃ j, j < k ∧ hasB (gq x.parts j).want.opens m = true) ∧ (0 < countsTo x k 2 m ↔ ∃ j, j < k ∧ hasB (gq x.parts j).want.shuts m = true)
  | 0 => by simp [countsTo]
  | k + 1 => by
    obtain ⟨i0, i1, i2⟩ := counts_pos x m k
    have st : ∀ {q : Nat → Prop}, (∃ j, j < k + 1 ∧ q j) ↔ (∃ j, j < k ∧ q j) ∨ q k := fun {q} =>
      ⟨fun ⟨j, hj, h⟩ => if e : j = k then Or.inr (e ▸ h) else Or.inl ⟨j, by omega, h⟩, fun h => h.elim (fun ⟨j, hj, h⟩ => ⟨j, by omega, h⟩) (fun h => ⟨k, by omega, h⟩)⟩
    refine ⟨?_, ?_, ?_⟩
    · rw [st, ← i0, hasB_iff, usesN_len]; rw [countsTo_succ, bumps_pos, bumps_pos, bumps_pos]; simp
    · rw [st, ← i1, hasB_iff]; rw [countsTo_succ, bumps_pos, bumps_pos, bumps_pos]; simp
    · rw [st, ← i2, hasB_iff]; rw [countsTo_succ, bumps_pos, bumps_pos, bumps_pos]; simp

theorem apart_same (x : Book) : allTo x.parts.length (apartAt x) = apartB x := by
  unfold apartB
  congr 1
  funext k
  rw [Bool.eq_iff_iff, allTo_iff]
  unfold apartAt
  rw [Bool.not_eq_true', ← Bool.not_eq_true, Bool.or_eq_true]
  constructor
  · intro h j hj
    rw [Bool.not_eq_true', ← Bool.not_eq_true]
    intro hm
    apply h
    unfold meetB crossB at hm
    simp only [Bool.or_eq_true, shareB_iff] at hm
    unfold usedB crossI
    simp only [Bool.or_eq_true, anyTo_iff, decide_eq_true_eq]
    rcases hm with ⟨i, hi, h1⟩ | ((⟨i, hi, h1⟩ | ⟨i, hi, h1⟩) | ⟨i, hi, h1⟩)
    · rw [usesN_len] at hi
      refine Or.inl ⟨i, hi, (counts_pos x _ k).1.2 ⟨j, hj, ?_⟩⟩
      have e : gs (usesN (gq x.parts k).want) i = (gu (gq x.parts k).want.uses i).name := by unfold gs; rw [List.getD_eq_getElem?_getD, usesN_at hi]; rfl
      rw [← e]; exact h1
    · exact Or.inr (Or.inl ⟨i, hi, Or.inl ((counts_pos x _ k).2.1.2 ⟨j, hj, h1⟩)⟩)
    · exact Or.inr (Or.inl ⟨i, hi, Or.inr ((counts_pos x _ k).2.2.2 ⟨j, hj, h1⟩)⟩)
    · exact Or.inr (Or.inr ⟨i, hi, (counts_pos x _ k).2.1.2 ⟨j, hj, h1⟩⟩)
  · intro h hm
    unfold usedB crossI at hm
    simp only [Bool.or_eq_true, anyTo_iff, decide_eq_true_eq] at hm
    have key : ∀ j, j < k → ¬ (shareB (usesN (gq x.parts k).want) (usesN (gq x.parts j).want) = true ∨ ((shareB (gq x.parts k).want.opens (gq x.parts j).want.opens = true ∨ shareB (gq x.parts k).want.opens (gq x.parts j).want.shuts = true) ∨ shareB (gq x.parts k).want.shuts (gq x.parts j).want.opens = true)) := by
      intro j hj hc
      have := h j hj
      rw [Bool.not_eq_true', ← Bool.not_eq_true] at this
      apply this
      unfold meetB crossB
      simp only [Bool.or_eq_true]
      exact hc
    rcases hm with ⟨i, hi, h1⟩ | (⟨i, hi, h1 | h1⟩ | ⟨i, hi, h1⟩)
    · obtain ⟨j, hj, h2⟩ := (counts_pos x _ k).1.1 h1
      have e : gs (usesN (gq x.parts k).want) i = (gu (gq x.parts k).want.uses i).name := by unfold gs; rw [List.getD_eq_getElem?_getD, usesN_at hi]; rfl
      exact key j hj (Or.inl (shareB_iff.2 ⟨i, by rw [usesN_len]; exact hi, by rw [e]; exact h2⟩))
    · obtain ⟨j, hj, h2⟩ := (counts_pos x _ k).2.1.1 h1
      exact key j hj (Or.inr (Or.inl (Or.inl (shareB_iff.2 ⟨i, hi, h2⟩))))
    · obtain ⟨j, hj, h2⟩ := (counts_pos x _ k).2.2.1 h1
      exact key j hj (Or.inr (Or.inl (Or.inr (shareB_iff.2 ⟨i, hi, h2⟩))))
    · obtain ⟨j, hj, h2⟩ := (counts_pos x _ k).2.1.1 h1
      exact key j hj (Or.inr (Or.inr (shareB_iff.2 ⟨i, hi, h2⟩)))

end Go.Proofs.YtfmhkicncgccjaaGreatDoor

/- What the program's ClaimBookOk answers: six looks in order. -/
namespace Go.Proofs.YtfmhkicncgccjaaGreatDoor
open Go.RowKit Go.Sort
set_option linter.unusedSimpArgs false
set_option linter.unusedVariables false
set_option maxRecDepth 100000

/-- The program's look k at a book. -/
def lookB (x : Book) : Nat → Bool
  | 0 => foesOkB x.foes
  | 1 => decide ((x.spots.length : Int) ≤ 8) && allTo x.spots.length (fun k => spotAtI' x.foes (gp x.spots k)) && ascSB x.spots
  | 2 => namesB x.valves 12 && inB x.seen 0 1000000
  | 3 => decide ((x.parts.length : Int) ≤ 6) && allTo x.parts.length (fun k => partAtI x (gq x.parts k)) && ascPB x.parts
  | 4 => apartB x
  | _ => placesB x

theorem looks_same (x : Book) : allTo 6 (lookB x) = bookB x := by
  rw [← book_same]
  simp only [allTo, lookB, bookI, Bool.true_and]

theorem looks_parts {x : Book} {k : Nat} (hk : 4 ≤ k) (h : allTo k (lookB x) = true) : x.parts.length ≤ 6 ∧ (∀ k, k < x.parts.length → wantB (gq x.parts k).want = true ∧ knowsB x (gq x.parts k).want = true) := by
  have h3 := allTo_iff.1 h 3 (by omega)
  simp only [lookB, Bool.and_eq_true, decide_eq_true_eq] at h3
  refine ⟨by omega, fun i hi => ?_⟩
  have := allTo_iff.1 h3.1.2 i hi
  simp only [partAtI, Bool.and_eq_true] at this
  exact ⟨this.1.2, this.2⟩

theorem wantB_lens {y : Want} (h : wantB y = true) : y.uses.length ≤ 20 ∧ y.opens.length ≤ 20 ∧ y.shuts.length ≤ 20 := by
  unfold wantB at h
  simp only [Bool.and_eq_true] at h
  have h4 := namesB_len h.1.1.1.1.1.1.2
  have h5 := namesB_len h.1.1.1.1.1.2
  have h3 := h.1.1.1.1.1.1.1.2
  unfold usesS at h3
  simp only [Bool.and_eq_true, decide_eq_true_eq] at h3
  exact ⟨by omega, by omega, by omega⟩

theorem looks_least {x : Book} {k : Nat} (hk : 2 ≤ k) (h : allTo k (lookB x) = true) : LeastFit x := by
  have h0 := allTo_iff.1 h 0 (by omega)
  have h1 := allTo_iff.1 h 1 (by omega)
  simp only [lookB] at h0 h1
  apply leastFit_of
  rw [← spots_same h0]
  rw [Bool.and_assoc, Bool.and_eq_true] at h1
  exact h1.2

set_option maxHeartbeats 4000000 in
theorem implBookOk_any (x : Book) (af ap av aq : Option Addr) (cf cp cv cq : Nat) (w : World) (hx : BookIn w x af ap av aq) (fx : BookFit x) :
    Calls Tryz.prog 123 #[bookV x af ap av aq cf cp cv cq] w fun e w' => e = .returned (.bool (bookB x)) ∧ Below w.heap.size w w' := by
  rw [← looks_same]
  unfold bookV
  have b0 : Below w.heap.size w ((w.alloc (.cells #[.slice af x.foes.length cf, .slice ap x.spots.length cp, .slice av x.valves.length cv, .slice aq x.parts.length cq, .int .i64 x.seen] 38)).alloc (.cells #[.func (.func 141) #[] #[], .func (.func 142) #[] #[], .func (.func 143) #[] #[], .func (.func 144) #[] #[], .func (.func 145) #[] #[], .func (.func 146) #[] #[]] 56)) := ((Below.refl _ _).alloc (Nat.le_refl _) _).alloc (by simp) _
  have i0 : Row ((w.alloc (.cells #[.slice af x.foes.length cf, .slice ap x.spots.length cp, .slice av x.valves.length cv, .slice aq x.parts.length cq, .int .i64 x.seen] 38)).alloc (.cells #[.func (.func 141) #[] #[], .func (.func 142) #[] #[], .func (.func 143) #[] #[], .func (.func 144) #[] #[], .func (.func 145) #[] #[], .func (.func 146) #[] #[]] 56)) w.heap.size 38 (bookL x af ap av aq cf cp cv cq) := (Row.new w 38 (bookL x af ap av aq cf cp cv cq)).alloc _
  have o0 : Row ((w.alloc (.cells #[.slice af x.foes.length cf, .slice ap x.spots.length cp, .slice av x.valves.length cv, .slice aq x.parts.length cq, .int .i64 x.seen] 38)).alloc (.cells #[.func (.func 141) #[] #[], .func (.func 142) #[] #[], .func (.func 143) #[] #[], .func (.func 144) #[] #[], .func (.func 145) #[] #[], .func (.func 146) #[] #[]] 56)) (w.heap.size + 1) 56 [.func (.func 141) #[] #[], .func (.func 142) #[] #[], .func (.func 143) #[] #[], .func (.func 144) #[] #[], .func (.func 145) #[] #[], .func (.func 146) #[] #[]] := by
    have := Row.new (w.alloc (.cells #[.slice af x.foes.length cf, .slice ap x.spots.length cp, .slice av x.valves.length cv, .slice aq x.parts.length cq, .int .i64 x.seen] 38)) 56 [.func (.func 141) #[] #[], .func (.func 142) #[] #[], .func (.func 143) #[] #[], .func (.func 144) #[] #[], .func (.func 145) #[] #[], .func (.func 146) #[] #[]]
    simpa using this
  go_enter Tryz.func123, Tryz.ntmps123
  go_wp2
  go_loopw [5, 9] (fun _ i wr => ∃ (k : Nat), k ≤ 6 ∧ i = .int .i64 k ∧ allTo k (lookB x) = true ∧ Below ((w.alloc (.cells #[.slice af x.foes.length cf, .slice ap x.spots.length cp, .slice av x.valves.length cv, .slice aq x.parts.length cq, .int .i64 x.seen] 38)).alloc (.cells #[.func (.func 141) #[] #[], .func (.func 142) #[] #[], .func (.func 143) #[] #[], .func (.func 144) #[] #[], .func (.func 145) #[] #[], .func (.func 146) #[] #[]] 56)).heap.size ((w.alloc (.cells #[.slice af x.foes.length cf, .slice ap x.spots.length cp, .slice av x.valves.length cv, .slice aq x.parts.length cq, .int .i64 x.seen] 38)).alloc (.cells #[.func (.func 141) #[] #[], .func (.func 142) #[] #[], .func (.func 143) #[] #[], .func (.func 144) #[] #[], .func (.func 145) #[] #[], .func (.func 146) #[] #[]] 56)) wr) (fun _ i _ => 6 - (intOf i).toNat)
  case atStart => exact ⟨0, Nat.zero_le _, rfl, rfl, Below.refl _ _⟩
  case round wr =>
    obtain ⟨k, hk, rfl, hall, hbel⟩ := hrel
    have hbw := b0.trans (hbel.mono b0.size)
    have i1 := i0.later hbel
    have o1 := o0.later hbel
    have hxi := hx.later hbw
    clear i0 o0
    have y0 := i1.cell 0 rfl
    have y1 := i1.cell 1 rfl
    have y2 := i1.cell 2 rfl
    have y3 := i1.cell 3 rfl
    have y4 := i1.cell 4 rfl
    have hs0 := o1.lt
    match k, hk with
    | 0, hk =>
      have z := o1.cell 0 rfl
      go_wp2_with fail
      refine (foesOk_any x af ap av aq cf cp cv cq _ hxi.foes fx.foes).mono ?_
      rintro e w1 ⟨rfl, hb1⟩
      have hbel1 := hbel.trans (hb1.mono hbel.size)
      cases hq : lookB x 0 with
      | false =>
        have hq' := hq
        simp only [lookB] at hq'
        rw [hq']
        go_wp2
        go_ret
        exact ⟨ret_bool (allTo_false 0 (by omega) hq).symm, b0.trans (hbel1.mono b0.size)⟩
      | true =>
        have hq' := hq
        simp only [lookB] at hq'
        rw [hq']
        go_wp2
        go_roundw
        case rel => exact ⟨1, by omega, rfl, allTo_succ hall hq, hbel1⟩
        case measure => simp [intOf]
    | 1, hk =>
      have z := o1.cell 1 rfl
      go_wp2_with fail
      refine (spotsOk_any x af ap av aq cf cp cv cq _ hxi.foes fx.foes.len hxi.spots fx.spots).mono ?_
      rintro e w1 ⟨rfl, hb1⟩
      have hbel1 := hbel.trans (hb1.mono hbel.size)
      cases hq : lookB x 1 with
      | false =>
        have hq' := hq
        simp only [lookB] at hq'
        rw [hq']
        go_wp2
        go_ret
        exact ⟨ret_bool (allTo_false 1 (by omega) hq).symm, b0.trans (hbel1.mono b0.size)⟩
      | true =>
        have hq' := hq
        simp only [lookB] at hq'
        rw [hq']
        go_wp2
        go_roundw
        case rel => exact ⟨2, by omega, rfl, allTo_succ hall hq, hbel1⟩
        case measure => simp [intOf]
    | 2, hk =>
      have z := o1.cell 2 rfl
      go_wp2_with fail
      refine (valvesOk_any x af ap av aq cf cp cv cq _ hxi.valves fx.valves).mono ?_
      rintro e w1 ⟨rfl, hb1⟩
      have hbel1 := hbel.trans (hb1.mono hbel.size)
      cases hq : lookB x 2 with
      | false =>
        have hq' := hq
        simp only [lookB] at hq'
        rw [hq']
        go_wp2
        go_ret
        exact ⟨ret_bool (allTo_false 2 (by omega) hq).symm, b0.trans (hbel1.mono b0.size)⟩
      | true =>
        have hq' := hq
        simp only [lookB] at hq'
        rw [hq']
        go_wp2
        go_roundw
        case rel => exact ⟨3, by omega, rfl, allTo_succ hall hq, hbel1⟩
        case measure => simp [intOf]
    | 3, hk =>
      have z := o1.cell 3 rfl
      go_wp2_with fail
      refine (partsOk_any x af ap av aq cf cp cv cq _ hxi fx).mono ?_
      rintro e w1 ⟨rfl, hb1⟩
      have hbel1 := hbel.trans (hb1.mono hbel.size)
      cases hq : lookB x 3 with
      | false =>
        have hq' := hq
        simp only [lookB] at hq'
        rw [hq']
        go_wp2
        go_ret
        exact ⟨ret_bool (allTo_false 3 (by omega) hq).symm, b0.trans (hbel1.mono b0.size)⟩
      | true =>
        have hq' := hq
        simp only [lookB] at hq'
        rw [hq']
        go_wp2
        go_roundw
        case rel => exact ⟨4, by omega, rfl, allTo_succ hall hq, hbel1⟩
        case measure => simp [intOf]
    | 4, hk =>
      have z := o1.cell 4 rfl
      go_wp2_with fail
      refine (partsApart_any x af ap av aq cf cp cv cq _ hxi fx (looks_parts (by omega) hall).1 (fun k hk => wantB_lens ((looks_parts (by omega) hall).2 k hk).1)).mono ?_
      rintro e w1 ⟨rfl, hb1⟩
      have hbel1 := hbel.trans (hb1.mono hbel.size)
      rw [apart_same]
      cases hq : lookB x 4 with
      | false =>
        have hq' := hq
        simp only [lookB] at hq'
        rw [hq']
        go_wp2
        go_ret
        exact ⟨ret_bool (allTo_false 4 (by omega) hq).symm, b0.trans (hbel1.mono b0.size)⟩
      | true =>
        have hq' := hq
        simp only [lookB] at hq'
        rw [hq']
        go_wp2
        go_roundw
        case rel => exact ⟨5, by omega, rfl, allTo_succ hall hq, hbel1⟩
        case measure => simp [intOf]
    | 5, hk =>
      have z := o1.cell 5 rfl
      go_wp2_with fail
      refine (placesOk_any x af ap av aq cf cp cv cq _ hxi fx (looks_least (by omega) hall) (looks_parts (by omega) hall).2).mono ?_
      rintro e w1 ⟨rfl, hb1⟩
      have hbel1 := hbel.trans (hb1.mono hbel.size)
      cases hq : lookB x 5 with
      | false =>
        have hq' := hq
        simp only [lookB] at hq'
        rw [hq']
        go_wp2
        go_ret
        exact ⟨ret_bool (allTo_false 5 (by omega) hq).symm, b0.trans (hbel1.mono b0.size)⟩
      | true =>
        have hq' := hq
        simp only [lookB] at hq'
        rw [hq']
        go_wp2
        go_roundw
        case rel => exact ⟨6, by omega, rfl, allTo_succ hall hq, hbel1⟩
        case measure => simp [intOf]
    | 6, hk =>
      go_wp2
      go_ret
      exact ⟨ret_bool hall.symm, hbw⟩
    | k + 7, hk => omega

end Go.Proofs.YtfmhkicncgccjaaGreatDoor
