/- What the program's foesOk answers. -/
import Derived.Test.YtfmhkicncgccjaaGreatBkSA
namespace Go.Proofs.YtfmhkicncgccjaaGreat
open Go.RowKit Go.Sort
set_option linter.unusedSimpArgs false
set_option linter.unusedVariables false

theorem bytesLess_irrefl : ∀ l : List UInt8, Op.bytesLess l l = false
  | [] => rfl
  | a :: l => by simp [Op.bytesLess, bytesLess_irrefl l]
theorem ltS_of_eqS {s t : ByteArray} (h : eqS s t = true) : ltS s t = false := by
  unfold eqS at h
  have e : s.toList = t.toList := by simpa using h
  unfold ltS
  rw [e]
  exact bytesLess_irrefl _

set_option maxHeartbeats 400000 in
theorem foesOk1_any (f g : Foe) (w : World) :
    Calls Tryz.prog 94 #[foeV f, foeV g] w fun e w' => e = .returned (.bool (foeAsc f g)) ∧ Below w.heap.size w w' := by
  unfold foeV
  have b0 : Below w.heap.size w ((w.alloc (.cells #[.string f.a, .string f.b] 70)).alloc (.cells #[.string g.a, .string g.b] 70)) := ((Below.refl _ _).alloc (Nat.le_refl _) _).alloc (by simp) _
  cases h1 : ltS f.a g.a with
  | true =>
    have h1' : Op.bytesLess f.a.toList g.a.toList = true := h1
    go_enter Tryz.func94, Tryz.ntmps94
    go_wp2
    go_ret
    exact ⟨ret_bool (by simp [foeAsc, h1]), b0⟩
  | false =>
    have h1' : Op.bytesLess f.a.toList g.a.toList = false := h1
    cases h2 : eqS f.a g.a with
    | true =>
      have h2' : (f.a.toList == g.a.toList) = true := h2
      go_enter Tryz.func94, Tryz.ntmps94
      go_wp2
      go_ret
      exact ⟨ret_bool (by simp [foeAsc, h1, h2]; rfl), b0⟩
    | false =>
      have h2' : (f.a.toList == g.a.toList) = false := h2
      go_enter Tryz.func94, Tryz.ntmps94
      go_wp2
      go_ret
      exact ⟨ret_bool (by simp [foeAsc, h1, h2]), b0⟩

def ascFB (fs : List Foe) : Bool := allTo fs.length (fun k => k == 0 || foeAsc (gf fs (k - 1)) (gf fs k))

set_option maxHeartbeats 1000000 in
theorem ascendingF_any (a : Option Addr) (cap : Nat) (us : List Foe) (w : World) (hm : FoesAt w a us) (hl : us.length ≤ maxLen) :
    Calls Tryz.prog 93 #[.slice a us.length cap, .func (.func 94) #[] #[]] w fun e w' => e = .returned (.bool (ascFB us)) ∧ Below w.heap.size w w' := by
  unfold maxLen at hl
  go_enter Tryz.func93, Tryz.ntmps93
  go_wp2
  go_loopw [5] (fun i wr => ∃ (k : Nat), (k ≤ us.length ∨ k = 1) ∧ 1 ≤ k ∧ i = .int .i64 k ∧ allTo k (fun k => k == 0 || foeAsc (gf us (k - 1)) (gf us k)) = true ∧ Below w.heap.size w wr) (fun i _ => us.length - (intOf i).toNat)
  case atStart => exact ⟨1, Or.inr rfl, Nat.le_refl _, rfl, rfl, Below.refl _ _⟩
  case round wr =>
    obtain ⟨k, hk, hk1, rfl, hall, hbel⟩ := hrel
    by_cases hlt : k < us.length
    · obtain ⟨j, rfl⟩ : ∃ j, k = j + 1 := ⟨k - 1, by omega⟩
      obtain ⟨b, o, ha, hb, hc10, hc11⟩ := (hm.later hbel).at hlt
      obtain ⟨b', o', ha', hb', hc20, hc21⟩ := (hm.later hbel).at (k := j) (by omega)
      subst ha
      simp only [Option.some.injEq, Addr.mk.injEq, and_true] at ha'
      obtain ⟨rfl, rfl⟩ := ha'
      have r10 := cell_regrown hc10
      have r11 := cell_regrown hc11
      have r20 := cell_regrown hc20
      have r21 := cell_regrown hc21
      have hcall := fun d os => Calls.regrown_of (w := wr) (foesOk1_any (gf us j) (gf us (j + 1)) (grow (redrawn wr d) os))
      unfold foeV at hcall
      have hwrap : IntKind.i64.wrap (j : Int) = j := by rw [IntKind.wrap_i64]; omega
      have hj1 : (j : Int) < us.length := by omega
      have hj2 : (j : Int) + 1 < us.length := by omega
      have hj3 : (0 : Int) ≤ (j : Int) + 1 := by omega
      have hj4 : ((j : Int) + 1).toNat = j + 1 := by omega
      go_wp2
      refine wp_region_quiet_below (by kernel_rfl) (by kernel_rfl) ?_
      repeat (quiet_step (with_reducible exact hcall _ _))
      refine wpQuiet_nil ?_
      intro w1 hw'
      obtain ⟨⟨dq, osq⟩, hw''⟩ := hw'
      have hbel1 : Below w.heap.size w w1 := hbel.trans ((hw'' ▸ below_regrown wr dq osq).mono hbel.size)
      clear hw'' hcall r10 r11 r20 r21
      cases hq : foeAsc (gf us j) (gf us (j + 1)) with
      | true =>
        go_wp2
        go_roundw
        case rel => exact ⟨j + 1 + 1, by omega, by omega, by go_num, allTo_succ hall (by simp [hq]), hbel1⟩
        case measure => simp [intOf]; omega
      | false =>
        go_wp2
        go_ret
        exact ⟨ret_bool (allTo_false (j + 1) hlt (by simp [hq])).symm, hbel1⟩
    · go_wp2
      go_ret
      refine ⟨ret_bool ?_, hbel⟩
      refine (allTo_iff.2 fun i hi => ?_).symm
      exact allTo_iff.1 hall i (by omega)

def foeAtI (fs : List Foe) (k : Nat) : Bool := nameB (gf fs k).a && nameB (gf fs k).b && ltS (gf fs k).a (gf fs k).b

theorem foes_same (fs : List Foe) : (decide ((fs.length : Int) ≤ 12) && allTo fs.length (foeAtI fs) && ascFB fs) = foesOkB fs := by
  unfold foesOkB ascFB
  rw [Bool.and_assoc]
  congr 1
  rw [Bool.eq_iff_iff, Bool.and_eq_true, allTo_iff, allTo_iff, allTo_iff]
  have key : ∀ (f g : Foe), foeAsc f g = !((!ltS f.a g.a && !eqS f.a g.a) || eqS f.a g.a && !ltS f.b g.b) := by
    intro f g
    unfold foeAsc
    cases he : eqS f.a g.a with
    | true => rw [ltS_of_eqS he]; cases ltS f.b g.b <;> rfl
    | false => cases ltS f.a g.a <;> simp
  unfold foeAtI foeAtS
  constructor
  · rintro ⟨h1, h2⟩ i hi
    have a1 := h1 i hi
    have a2 := h2 i hi
    rw [key] at a2
    rw [a1, a2]; rfl
  · intro h
    refine ⟨fun i hi => ?_, fun i hi => ?_⟩
    · have := h i hi
      rw [Bool.and_eq_true] at this
      exact this.1
    · have := h i hi
      rw [Bool.and_eq_true] at this
      rw [key]
      exact this.2

set_option maxRecDepth 100000 in
set_option maxHeartbeats 2000000 in
theorem foesOk_any (x : Book) (af ap av aq : Option Addr) (cf cp cv cq : Nat) (w : World) (hm : FoesAt w af x.foes) (hf : FoesFit x.foes) :
    Calls Tryz.prog 52 #[bookV x af ap av aq cf cp cv cq] w fun e w' => e = .returned (.bool (foesOkB x.foes)) ∧ Below w.heap.size w w' := by
  rw [← foes_same]
  have hl := hf.len
  unfold maxLen at hl
  unfold bookV
  by_cases hmany : 12 < (x.foes.length : Int)
  · go_enter Tryz.func52, Tryz.ntmps52
    go_wp2
    go_ret
    exact ⟨ret_bool (by rw [decide_eq_false (by omega)]; rfl), (Below.refl _ _).alloc (Nat.le_refl _) _⟩
  · go_enter Tryz.func52, Tryz.ntmps52
    go_wp2
    go_loopw [4, 12] (fun _ i wr => ∃ (k : Nat), k ≤ x.foes.length ∧ i = .int .i64 k ∧ allTo k (foeAtI x.foes) = true ∧ Below (w.alloc (.cells (bookL x af ap av aq cf cp cv cq).toArray 28)).heap.size (w.alloc (.cells (bookL x af ap av aq cf cp cv cq).toArray 28)) wr) (fun _ i _ => x.foes.length - (intOf i).toNat)
    case atStart => exact ⟨0, Nat.zero_le _, rfl, rfl, Below.refl _ _⟩
    case round wr =>
      obtain ⟨k, hk, rfl, hall, hbel⟩ := hrel
      have hbw := below_over hbel
      have bk := bookRow hbel
      by_cases hlt : k < x.foes.length
      · obtain ⟨b, o, ha, hb, hc0, hc1⟩ := (hm.later hbw).at hlt
        have hsz := hf.names _ (gf_mem hlt)
        have hba : Below wr.heap.size wr (wr.alloc (.cells #[.string (gf x.foes k).a, .string (gf x.foes k).b] 70)) := (Below.refl _ _).alloc (Nat.le_refl _) _
        have frow := Row.new wr 70 [.string (gf x.foes k).a, .string (gf x.foes k).b]
        have hbela := hbel.trans (hba.mono hbel.size)
        subst ha
        go_wp2_with fail
        refine (nameOk_any (gf x.foes k).a _ hsz.1).mono ?_
        rintro e w1 ⟨rfl, hb1⟩
        have f1 := (frow.later hb1).cell 1 rfl
        have f0 := (frow.later hb1).cell 0 rfl
        have hbel1 := hbela.trans (hb1.mono hbela.size)
        cases hq1 : nameB (gf x.foes k).a with
        | false =>
          go_wp2
          go_ret
          exact ⟨ret_bool (by rw [allTo_false k hlt (by simp [foeAtI, hq1])]; simp), below_over hbel1⟩
        | true =>
        go_wp2_with fail
        refine (nameOk_any (gf x.foes k).b _ hsz.2).mono ?_
        rintro e w2 ⟨rfl, hb2⟩
        have g1 := cell_later hb2 f1
        have g0 := cell_later hb2 f0
        have hbel2 := hbel1.trans (hb2.mono hbel1.size)
        clear f0 f1 hb1 hb2 frow hba hbela
        cases hq2 : nameB (gf x.foes k).b with
        | false =>
          go_wp2
          go_ret
          exact ⟨ret_bool (by rw [allTo_false k hlt (by simp [foeAtI, hq2])]; simp), below_over hbel2⟩
        | true =>
        cases hq3 : ltS (gf x.foes k).a (gf x.foes k).b with
        | false =>
          have hq3' : Op.bytesLess (gf x.foes k).a.toList (gf x.foes k).b.toList = false := hq3
          go_wp2
          go_ret
          exact ⟨ret_bool (by rw [allTo_false k hlt (by simp [foeAtI, hq3])]; simp), below_over hbel2⟩
        | true =>
          have hq3' : Op.bytesLess (gf x.foes k).a.toList (gf x.foes k).b.toList = true := hq3
          go_wp2
          go_roundw
          case rel => exact ⟨k + 1, by omega, by go_num, allTo_succ hall (by simp [foeAtI, hq1, hq2, hq3]), hbel2⟩
          case measure => simp [intOf]; omega
      · have : k = x.foes.length := by omega
        subst this
        have y0 := bk.cell 0 rfl
        go_wp2_with fail
        refine (ascendingF_any af cf x.foes _ (hm.later hbw) hf.len).mono ?_
        rintro e w1 ⟨rfl, hb1⟩
        go_wp2
        go_ret
        exact ⟨ret_bool (by rw [hall, decide_eq_true (by omega)]; rfl), hbw.trans (hb1.mono hbw.size)⟩

end Go.Proofs.YtfmhkicncgccjaaGreat
