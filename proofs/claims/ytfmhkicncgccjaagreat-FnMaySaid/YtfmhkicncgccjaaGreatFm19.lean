/- Joined: BkS3. -/
import Derived.Test.YtfmhkicncgccjaaGreatFm16
/- What the specification's l2FoesOk answers. -/
namespace Go.Proofs.YtfmhkicncgccjaaGreat
open Go.RowKit Go.Sort
set_option linter.unusedSimpArgs false
set_option linter.unusedVariables false

/-- The order of pairs of foes, as Go asks: not behind. -/
def foeAsc (f g : Foe) : Bool := ltS f.a g.a || eqS f.a g.a && ltS f.b g.b
/-- A pair of foes at its place, as the specification asks. -/
def foeAtS (fs : List Foe) (k : Nat) : Bool :=
 nameB (gf fs k).a && nameB (gf fs k).b && ltS (gf fs k).a (gf fs k).b && (k == 0 || !((!ltS (gf fs (k - 1)).a (gf fs k).a && !eqS (gf fs (k - 1)).a (gf fs k).a) || eqS (gf fs (k - 1)).a (gf fs k).a && !ltS (gf fs (k - 1)).b (gf fs k).b))
def foesOkB (fs : List Foe) : Bool := decide ((fs.length : Int) ≤ 12) && allTo fs.length (foeAtS fs)

theorem foesOkB_many {fs : List Foe} (h : 12 < (fs.length : Int)) : foesOkB fs = false := by unfold foesOkB; rw [decide_eq_false (by omega)]; rfl
theorem foesOkB_bad {fs : List Foe} (k : Nat) (hk : k < fs.length) (h : foeAtS fs k = false) : foesOkB fs = false := by unfold foesOkB; rw [allTo_false k hk h, Bool.and_false]
theorem foesOkB_good {fs : List Foe} (h : ¬ 12 < (fs.length : Int)) (ha : allTo fs.length (foeAtS fs) = true) : foesOkB fs = true := by unfold foesOkB; rw [ha, decide_eq_true (by omega)]; rfl

set_option maxRecDepth 100000 in
set_option maxHeartbeats 20000000 in
theorem l2FoesOk_any (x : Book) (af ap av aq : Option Addr) (cf cp cv cq : Nat) (w : World) (hm : FoesAt w af x.foes) (hf : FoesFit x.foes) :
 Calls Tryz.prog 43 #[bookV x af ap av aq cf cp cv cq] w fun e w' => e = .returned (.bool (foesOkB x.foes)) ∧ Below w.heap.size w w' := by
 have hl := hf.len
 unfold maxLen at hl
 unfold bookV
 by_cases hmany : 12 < (x.foes.length : Int)
 · go_enter Tryz.func43, Tryz.ntmps43
   go_wp2
   go_ret
   exact ⟨ret_bool (foesOkB_many hmany).symm, (Below.refl _ _).alloc (Nat.le_refl _) _⟩
 · go_enter Tryz.func43, Tryz.ntmps43
   go_wp2
   go_loopw [3] (fun i wr => ∃ (k : Nat), k ≤ x.foes.length ∧ i = .int .i64 k ∧ allTo k (foeAtS x.foes) = true ∧ Below (w.alloc (.cells (bookL x af ap av aq cf cp cv cq).toArray 28)).heap.size (w.alloc (.cells (bookL x af ap av aq cf cp cv cq).toArray 28)) wr) (fun i _ => x.foes.length - (intOf i).toNat)
   case atStart => exact ⟨0, Nat.zero_le _, rfl, rfl, Below.refl _ _⟩
   case round wr =>
    obtain ⟨k, hk, rfl, hall, hbel⟩ := hrel
    have hbw := below_over hbel
    have y0 := (bookRow hbel).cell 0 rfl
    have hz := (bookRow hbel).lt
    by_cases hlt : k < x.foes.length
    · obtain ⟨b, o, ha, hb, hc0, hc1⟩ := (hm.later hbw).at hlt
      have hsz := hf.names _ (gf_mem hlt)
      have hbf : ∀ nd, Below (w.alloc (.cells (bookL x af ap av aq cf cp cv cq).toArray 28)).heap.size (w.alloc (.cells (bookL x af ap av aq cf cp cv cq).toArray 28)) ((wr.alloc (.cells #[.string (gf x.foes k).a, .string (gf x.foes k).b] 70)).drewN nd) := fun nd => below_drewN (hbel.alloc hbel.size _) nd
      have hcall1 := fun nd => quietSame (w := wr.alloc (.cells #[.string (gf x.foes k).a, .string (gf x.foes k).b] 70)) (n := nd) (l1NameOk_any (gf x.foes k).a _ hsz.1)
      have hcall2 := fun nd => quietSame (w := wr.alloc (.cells #[.string (gf x.foes k).a, .string (gf x.foes k).b] 70)) (n := nd) (l1NameOk_any (gf x.foes k).b _ hsz.2)
      clear hsz
      cases hq1 : nameB (gf x.foes k).a with
      | false =>
       rw [hq1] at hcall1
       subst ha
       go_wp2
       go_quiet (first | with_reducible exact hcall1 _ | with_reducible exact hcall2 _)
       go_wp2
       go_ret
       exact ⟨ret_bool (foesOkB_bad k hlt (by simp [foeAtS, hq1])).symm, below_over (hbf _)⟩
      | true =>
      rw [hq1] at hcall1
      cases hq2 : nameB (gf x.foes k).b with
      | false =>
       rw [hq2] at hcall2
       subst ha
       go_wp2
       go_quiet (first | with_reducible exact hcall1 _ | with_reducible exact hcall2 _)
       go_wp2
       go_ret
       exact ⟨ret_bool (foesOkB_bad k hlt (by simp [foeAtS, hq2])).symm, below_over (hbf _)⟩
      | true =>
      rw [hq2] at hcall2
      cases hq3 : ltS (gf x.foes k).a (gf x.foes k).b with
      | false =>
       have hq3' : Op.bytesLess (gf x.foes k).a.toList (gf x.foes k).b.toList = false := hq3
       subst ha
       go_wp2
       go_quiet (first | with_reducible exact hcall1 _ | with_reducible exact hcall2 _)
       go_wp2
       go_ret
       exact ⟨ret_bool (foesOkB_bad k hlt (by simp [foeAtS, hq3])).symm, below_over (hbf _)⟩
      | true =>
      have hq3' : Op.bytesLess (gf x.foes k).a.toList (gf x.foes k).b.toList = true := hq3
      by_cases hk0 : k = 0
      · subst hk0
        subst ha
        simp only [Nat.zero_mul, Nat.add_zero] at hc0 hc1
        go_wp2
        go_quiet (first | with_reducible exact hcall1 _ | with_reducible exact hcall2 _)
        go_wp2
        go_roundw
        case rel => exact ⟨1, by omega, rfl, by simp [allTo, foeAtS, hq1, hq2, hq3], hbf _⟩
        case measure => simp [intOf]; omega
      · obtain ⟨j, rfl⟩ : ∃ j, k = j + 1 := ⟨k - 1, by omega⟩
        obtain ⟨b', o', ha', hb', hd0, hd1⟩ := (hm.later hbw).at (k := j) (by omega)
        subst ha
        simp only [Option.some.injEq, Addr.mk.injEq, and_true] at ha'
        obtain ⟨rfl, rfl⟩ := ha'
        have hat : foeAtS x.foes (j + 1) = !((!ltS (gf x.foes j).a (gf x.foes (j + 1)).a && !eqS (gf x.foes j).a (gf x.foes (j + 1)).a) || eqS (gf x.foes j).a (gf x.foes (j + 1)).a && !ltS (gf x.foes j).b (gf x.foes (j + 1)).b) := by simp [foeAtS, hq1, hq2, hq3]
        cases he1 : eqS (gf x.foes j).a (gf x.foes (j + 1)).a with
        | true =>
         have g2 : ((gf x.foes j).a.toList == (gf x.foes (j + 1)).a.toList) = true := he1
         cases hl2 : ltS (gf x.foes j).b (gf x.foes (j + 1)).b with
         | true =>
          have g3 : Op.bytesLess (gf x.foes j).b.toList (gf x.foes (j + 1)).b.toList = true := hl2
          have hA : foeAtS x.foes (j + 1) = true := by rw [hat, he1, hl2]; simp
          have HA : Hid (foeAtS x.foes (j + 1) = true) := hA
          clear hA
          clear hat he1 hl2
          go_wp2
          go_quiet (first | with_reducible exact hcall1 _ | with_reducible exact hcall2 _)
          go_wp2
          go_roundw
          case rel => exact ⟨j + 1 + 1, by omega, by go_num, allTo_succ hall HA.out, hbf _⟩
          case measure => simp [intOf]; omega
         | false =>
          have g3 : Op.bytesLess (gf x.foes j).b.toList (gf x.foes (j + 1)).b.toList = false := hl2
          have hA : foeAtS x.foes (j + 1) = false := by rw [hat, he1, hl2]; simp
          have HA : Hid (foeAtS x.foes (j + 1) = false) := hA
          clear hA
          clear hat he1 hl2
          go_wp2
          go_quiet (first | with_reducible exact hcall1 _ | with_reducible exact hcall2 _)
          go_wp2
          go_ret
          exact ⟨ret_bool (foesOkB_bad (j + 1) hlt HA.out).symm, below_over (hbf _)⟩
        | false =>
         have g2 : ((gf x.foes j).a.toList == (gf x.foes (j + 1)).a.toList) = false := he1
         cases hl1 : ltS (gf x.foes j).a (gf x.foes (j + 1)).a with
         | true =>
          have g1 : Op.bytesLess (gf x.foes j).a.toList (gf x.foes (j + 1)).a.toList = true := hl1
          have hA : foeAtS x.foes (j + 1) = true := by rw [hat, he1, hl1]; simp
          have HA : Hid (foeAtS x.foes (j + 1) = true) := hA
          clear hA
          clear hat he1 hl1
          go_wp2
          go_quiet (first | with_reducible exact hcall1 _ | with_reducible exact hcall2 _)
          go_wp2
          go_roundw
          case rel => exact ⟨j + 1 + 1, by omega, by go_num, allTo_succ hall HA.out, hbf _⟩
          case measure => simp [intOf]; omega
         | false =>
          have g1 : Op.bytesLess (gf x.foes j).a.toList (gf x.foes (j + 1)).a.toList = false := hl1
          have hA : foeAtS x.foes (j + 1) = false := by rw [hat, he1, hl1]; simp
          have HA : Hid (foeAtS x.foes (j + 1) = false) := hA
          clear hA
          clear hat he1 hl1
          go_wp2
          go_quiet (first | with_reducible exact hcall1 _ | with_reducible exact hcall2 _)
          go_wp2
          go_ret
          exact ⟨ret_bool (foesOkB_bad (j + 1) hlt HA.out).symm, below_over (hbf _)⟩
    · have : k = x.foes.length := by omega
      subst this
      go_wp2
      go_ret
      exact ⟨ret_bool (foesOkB_good (by omega) hall).symm, hbw⟩

end Go.Proofs.YtfmhkicncgccjaaGreat

