/- Joined: BkS3, BkI2, BkI3, BkI4, BkI5, BkI6. -/
import Derived.Test.YtfmhkicncgccjaaGreatDoorPc05
import Derived.Test.YtfmhkicncgccjaaGreatDoorPc06
/- What the specification's l2FoesOk answers. -/
namespace Go.Proofs.YtfmhkicncgccjaaGreatDoor
open Go.RowKit Go.Sort
set_option linter.unusedSimpArgs false
set_option linter.unusedVariables false

/-- The order of pairs of foes, as Go asks: not behind. -/
def foeAsc (f g : Foe) : Bool := ltS f.a g.a || eqS f.a g.a && ltS f.b g.b
/-- A pair of foes at its place, as the specification asks. -/
def foeAtS (fs : List Foe) (k : Nat) : Bool :=
  nameB (gf fs k).a && nameB (gf fs k).b && ltS (gf fs k).a (gf fs k).b && (k == 0 || !((!ltS (gf fs (k - 1)).a (gf fs k).a && !eqS (gf fs (k - 1)).a (gf fs k).a) || eqS (gf fs (k - 1)).a (gf fs k).a && !ltS (gf fs (k - 1)).b (gf fs k).b))
def foesOkB (fs : List Foe) : Bool := decide ((fs.length : Int) ≤ 12) && allTo fs.length (foeAtS fs)

theorem foesOkB_many {fs : List Foe} (h : 12 < (fs.length : Int)) : foesOkB fs = false := by unfold foesOkB; rw [decide_eq_false (by omega)]; rfl
theorem foesOkB_bad {fs : List Foe} (k : Nat) (hk : k < fs.length) (h : foeAtS fs k = false) : foesOkB fs = false := by unfold foesOkB; rw [allTo_false k hk h, Bool.and_false]
theorem foesOkB_good {fs : List Foe} (h : ¬ 12 < (fs.length : Int)) (ha : allTo fs.length (foeAtS fs) = true) : foesOkB fs = true := by unfold foesOkB; rw [ha, decide_eq_true (by omega)]; rfl

set_option maxRecDepth 100000 in
set_option maxHeartbeats 20000000 in
theorem l2FoesOk_any (x : Book) (af ap av aq : Option Addr) (cf cp cv cq : Nat) (w : World) (hm : FoesAt w af x.foes) (hf : FoesFit x.foes) :
    Calls Tryz.prog 63 #[bookV x af ap av aq cf cp cv cq] w fun e w' => e = .returned (.bool (foesOkB x.foes)) ∧ Below w.heap.size w w' := by
  have hl := hf.len
  unfold maxLen at hl
  unfold bookV
  by_cases hmany : 12 < (x.foes.length : Int)
  · go_enter Tryz.func63, Tryz.ntmps63
    go_wp2
    go_ret
    exact ⟨ret_bool (foesOkB_many hmany).symm, (Below.refl _ _).alloc (Nat.le_refl _) _⟩
  · go_enter Tryz.func63, Tryz.ntmps63
    go_wp2
    go_loopw [3] (fun i wr => ∃ (k : Nat), k ≤ x.foes.length ∧ i = .int .i64 k ∧ allTo k (foeAtS x.foes) = true ∧ Below (w.alloc (.cells (bookL x af ap av aq cf cp cv cq).toArray 38)).heap.size (w.alloc (.cells (bookL x af ap av aq cf cp cv cq).toArray 38)) wr) (fun i _ => x.foes.length - (intOf i).toNat)
    case atStart => exact ⟨0, Nat.zero_le _, rfl, rfl, Below.refl _ _⟩
    case round wr =>
      obtain ⟨k, hk, rfl, hall, hbel⟩ := hrel
      have hbw := below_over hbel
      have y0 := (bookRow hbel).cell 0 rfl
      have hz := (bookRow hbel).lt
      by_cases hlt : k < x.foes.length
      · obtain ⟨b, o, ha, hb, hc0, hc1⟩ := (hm.later hbw).at hlt
        have hsz := hf.names _ (gf_mem hlt)
        have hbf : ∀ nd, Below (w.alloc (.cells (bookL x af ap av aq cf cp cv cq).toArray 38)).heap.size (w.alloc (.cells (bookL x af ap av aq cf cp cv cq).toArray 38)) ((wr.alloc (.cells #[.string (gf x.foes k).a, .string (gf x.foes k).b] 105)).drewN nd) := fun nd => below_drewN (hbel.alloc hbel.size _) nd
        have hcall1 := fun nd => quietSame (w := wr.alloc (.cells #[.string (gf x.foes k).a, .string (gf x.foes k).b] 105)) (n := nd) (l1NameOk_any (gf x.foes k).a _ hsz.1)
        have hcall2 := fun nd => quietSame (w := wr.alloc (.cells #[.string (gf x.foes k).a, .string (gf x.foes k).b] 105)) (n := nd) (l1NameOk_any (gf x.foes k).b _ hsz.2)
        clear hsz
        cases hq1 : nameB (gf x.foes k).a with
        | false =>
          rw [hq1] at hcall1
          subst ha
          go_wp2
          go_quiet (first | with_reducible exact hcall1 _ | with_reducible exact hcall2 _)
          go_wp2
          go_ret
          exact ⟨ret_bool (foesOkB_bad k hlt (by simp [foeAtS, hq1])).symm, below_over (hbf _)⟩
        | true =>
        rw [hq1] at hcall1
        cases hq2 : nameB (gf x.foes k).b with
        | false =>
          rw [hq2] at hcall2
          subst ha
          go_wp2
          go_quiet (first | with_reducible exact hcall1 _ | with_reducible exact hcall2 _)
          go_wp2
          go_ret
          exact ⟨ret_bool (foesOkB_bad k hlt (by simp [foeAtS, hq2])).symm, below_over (hbf _)⟩
        | true =>
        rw [hq2] at hcall2
        cases hq3 : ltS (gf x.foes k).a (gf x.foes k).b with
        | false =>
          have hq3' : Op.bytesLess (gf x.foes k).a.toList (gf x.foes k).b.toList = false := hq3
          subst ha
          go_wp2
          go_quiet (first | with_reducible exact hcall1 _ | with_reducible exact hcall2 _)
          go_wp2
          go_ret
          exact ⟨ret_bool (foesOkB_bad k hlt (by simp [foeAtS, hq3])).symm, below_over (hbf _)⟩
        | true =>
        have hq3' : Op.bytesLess (gf x.foes k).a.toList (gf x.foes k).b.toList = true := hq3
        by_cases hk0 : k = 0
        · subst hk0
          subst ha
          simp only [Nat.zero_mul, Nat.add_zero] at hc0 hc1
          go_wp2
          go_quiet (first | with_reducible exact hcall1 _ | with_reducible exact hcall2 _)
          go_wp2
          go_roundw
          case rel => exact ⟨1, by omega, rfl, by simp [allTo, foeAtS, hq1, hq2, hq3], hbf _⟩
          case measure => simp [intOf]; omega
        · obtain ⟨j, rfl⟩ : ∃ j, k = j + 1 := ⟨k - 1, by omega⟩
          obtain ⟨b', o', ha', hb', hd0, hd1⟩ := (hm.later hbw).at (k := j) (by omega)
          subst ha
          simp only [Option.some.injEq, Addr.mk.injEq, and_true] at ha'
          obtain ⟨rfl, rfl⟩ := ha'
          have hat : foeAtS x.foes (j + 1) = !((!ltS (gf x.foes j).a (gf x.foes (j + 1)).a && !eqS (gf x.foes j).a (gf x.foes (j + 1)).a) || eqS (gf x.foes j).a (gf x.foes (j + 1)).a && !ltS (gf x.foes j).b (gf x.foes (j + 1)).b) := by simp [foeAtS, hq1, hq2, hq3]
          cases he1 : eqS (gf x.foes j).a (gf x.foes (j + 1)).a with
          | true =>
            have g2 : ((gf x.foes j).a.toList == (gf x.foes (j + 1)).a.toList) = true := he1
            cases hl2 : ltS (gf x.foes j).b (gf x.foes (j + 1)).b with
            | true =>
              have g3 : Op.bytesLess (gf x.foes j).b.toList (gf x.foes (j + 1)).b.toList = true := hl2
              have hA : foeAtS x.foes (j + 1) = true := by rw [hat, he1, hl2]; simp
              have HA : Hid (foeAtS x.foes (j + 1) = true) := hA
              clear hA
              clear hat he1 hl2
              go_wp2
              go_quiet (first | with_reducible exact hcall1 _ | with_reducible exact hcall2 _)
              go_wp2
              go_roundw
              case rel => exact ⟨j + 1 + 1, by omega, by go_num, allTo_succ hall HA.out, hbf _⟩
              case measure => simp [intOf]; omega
            | false =>
              have g3 : Op.bytesLess (gf x.foes j).b.toList (gf x.foes (j + 1)).b.toList = false := hl2
              have hA : foeAtS x.foes (j + 1) = false := by rw [hat, he1, hl2]; simp
              have HA : Hid (foeAtS x.foes (j + 1) = false) := hA
              clear hA
              clear hat he1 hl2
              go_wp2
              go_quiet (first | with_reducible exact hcall1 _ | with_reducible exact hcall2 _)
              go_wp2
              go_ret
              exact ⟨ret_bool (foesOkB_bad (j + 1) hlt HA.out).symm, below_over (hbf _)⟩
          | false =>
            have g2 : ((gf x.foes j).a.toList == (gf x.foes (j + 1)).a.toList) = false := he1
            cases hl1 : ltS (gf x.foes j).a (gf x.foes (j + 1)).a with
            | true =>
              have g1 : Op.bytesLess (gf x.foes j).a.toList (gf x.foes (j + 1)).a.toList = true := hl1
              have hA : foeAtS x.foes (j + 1) = true := by rw [hat, he1, hl1]; simp
              have HA : Hid (foeAtS x.foes (j + 1) = true) := hA
              clear hA
              clear hat he1 hl1
              go_wp2
              go_quiet (first | with_reducible exact hcall1 _ | with_reducible exact hcall2 _)
              go_wp2
              go_roundw
              case rel => exact ⟨j + 1 + 1, by omega, by go_num, allTo_succ hall HA.out, hbf _⟩
              case measure => simp [intOf]; omega
            | false =>
              have g1 : Op.bytesLess (gf x.foes j).a.toList (gf x.foes (j + 1)).a.toList = false := hl1
              have hA : foeAtS x.foes (j + 1) = false := by rw [hat, he1, hl1]; simp
              have HA : Hid (foeAtS x.foes (j + 1) = false) := hA
              clear hA
              clear hat he1 hl1
              go_wp2
              go_quiet (first | with_reducible exact hcall1 _ | with_reducible exact hcall2 _)
              go_wp2
              go_ret
              exact ⟨ret_bool (foesOkB_bad (j + 1) hlt HA.out).symm, below_over (hbf _)⟩
      · have : k = x.foes.length := by omega
        subst this
        go_wp2
        go_ret
        exact ⟨ret_bool (foesOkB_good (by omega) hall).symm, hbw⟩

end Go.Proofs.YtfmhkicncgccjaaGreatDoor

/- What the program's functions answer that look for foes. -/
namespace Go.Proofs.YtfmhkicncgccjaaGreatDoor
open Go.RowKit Go.Sort
set_option linter.unusedSimpArgs false
set_option linter.unusedVariables false

def foeIs (f : Foe) (x y : ByteArray) : Bool := eqS x f.a && eqS y f.b
def hasF (fs : List Foe) (x y : ByteArray) : Bool := anyTo fs.length (fun i => foeIs (gf fs i) x y)

theorem foes_hit (fs : List Foe) (x y : ByteArray) : (hasF fs x y || hasF fs y x) = foesB fs x y := by
  rw [Bool.eq_iff_iff, Bool.or_eq_true]
  unfold hasF foesB
  rw [anyTo_iff, anyTo_iff, anyTo_iff]
  have key : ∀ f : Foe, foeHit f x y = (foeIs f x y || foeIs f y x) := by
    intro f
    unfold foeHit foeIs
    rw [eqS_comm f.a x, eqS_comm f.b y, eqS_comm f.a y, eqS_comm f.b x]
  constructor
  · rintro (⟨i, hi, h⟩ | ⟨i, hi, h⟩)
    · exact ⟨i, hi, by rw [key, h]; rfl⟩
    · exact ⟨i, hi, by rw [key, h]; simp⟩
  · rintro ⟨i, hi, h⟩
    rw [key, Bool.or_eq_true] at h
    rcases h with h | h
    · exact Or.inl ⟨i, hi, h⟩
    · exact Or.inr ⟨i, hi, h⟩

set_option maxHeartbeats 1000000 in
theorem indexF_any (a : Option Addr) (cap : Nat) (fs : List Foe) (x y : ByteArray) (w : World) (hm : FoesAt w a fs) (hl : fs.length ≤ maxLen) :
    Calls Tryz.prog 183 #[.slice a fs.length cap, .agg #[.string x, .string y]] w fun e w' => (∃ r : Int, e = .returned (.int .i64 r) ∧ decide (0 ≤ r) = hasF fs x y) ∧ Below w.heap.size w w' := by
  unfold maxLen at hl
  go_enter Tryz.func183, Tryz.ntmps183
  go_wp2
  go_loopw [5, 8] (fun _ i wr => ∃ (k : Nat), k ≤ fs.length ∧ i = .int .i64 k ∧ allTo k (fun i => !(foeIs (gf fs i) x y)) = true ∧ Below (w.alloc (.cells #[.string x, .string y] 105)).heap.size (w.alloc (.cells #[.string x, .string y] 105)) wr) (fun _ i _ => fs.length - (intOf i).toNat)
  case atStart => exact ⟨0, Nat.zero_le _, rfl, rfl, Below.refl _ _⟩
  case round wr =>
    obtain ⟨k, hk, rfl, hall, hbel⟩ := hrel
    have hbw := below_over hbel
    have row := (Row.new w 105 [.string x, .string y]).later hbel
    have y0 := row.cell 0 rfl
    have y1 := row.cell 1 rfl
    by_cases hlt : k < fs.length
    · obtain ⟨b, o, ha, hb, hc0, hc1⟩ := (hm.later hbw).at hlt
      subst ha
      have hlt2 : (k : Int) < fs.length := by omega
      cases h1 : eqS x (gf fs k).a with
      | false =>
        have h1' : (x.toList == (gf fs k).a.toList) = false := h1
        have hq : foeIs (gf fs k) x y = false := by simp [foeIs, h1]
        have HQ : Hid (foeIs (gf fs k) x y = false) := hq
        clear hq
        go_wp2
        go_quiet (fail)
        go_wp2
        go_roundw
        case rel => exact ⟨k + 1, by omega, by go_num, allTo_succ hall (by rw [HQ.out]; rfl), below_drewN hbel _⟩
        case measure => simp [intOf]; omega
      | true =>
        have h1' : (x.toList == (gf fs k).a.toList) = true := h1
        cases h2 : eqS y (gf fs k).b with
        | false =>
          have h2' : (y.toList == (gf fs k).b.toList) = false := h2
          have hq : foeIs (gf fs k) x y = false := by simp [foeIs, h2]
          have HQ : Hid (foeIs (gf fs k) x y = false) := hq
          clear hq
          go_wp2
          go_quiet (fail)
          go_wp2
          go_roundw
          case rel => exact ⟨k + 1, by omega, by go_num, allTo_succ hall (by rw [HQ.out]; rfl), below_drewN hbel _⟩
          case measure => simp [intOf]; omega
        | true =>
          have h2' : (y.toList == (gf fs k).b.toList) = true := h2
          have hq : foeIs (gf fs k) x y = true := by simp [foeIs, h1, h2]
          have HQ : Hid (foeIs (gf fs k) x y = true) := hq
          clear hq
          go_wp2
          go_quiet (fail)
          go_wp2
          go_ret
          exact ⟨⟨k, rfl, by rw [show hasF fs x y = true from anyTo_true k hlt HQ.out]; simp⟩, below_over (below_drewN hbel _)⟩
    · go_wp2
      go_ret
      have : k = fs.length := by omega
      subst this
      exact ⟨⟨-1, rfl, by rw [show hasF fs x y = false from anyTo_none hall]; rfl⟩, hbw⟩


set_option maxHeartbeats 1000000 in
theorem containsF_any (a : Option Addr) (cap : Nat) (fs : List Foe) (x y : ByteArray) (w : World) (hm : FoesAt w a fs) (hl : fs.length ≤ maxLen) :
    Calls Tryz.prog 158 #[.slice a fs.length cap, .agg #[.string x, .string y]] w fun e w' => e = .returned (.bool (hasF fs x y)) ∧ Below w.heap.size w w' := by
  have b0 : Below w.heap.size w (w.alloc (.cells #[.string x, .string y] 105)) := (Below.refl _ _).alloc (Nat.le_refl _) _
  go_enter Tryz.func158, Tryz.ntmps158
  go_wp2_with fail
  refine (indexF_any a cap fs x y _ (hm.later b0) hl).mono ?_
  rintro e w1 ⟨⟨r, rfl, hr⟩, hb⟩
  go_wp2
  go_ret
  exact ⟨ret_bool (by first | exact hr | rfl), b0.trans (hb.mono b0.size)⟩

set_option maxHeartbeats 1000000 in
theorem areFoes_any (a : Option Addr) (cap : Nat) (fs : List Foe) (x y : ByteArray) (w : World) (hm : FoesAt w a fs) (hl : fs.length ≤ maxLen) :
    Calls Tryz.prog 133 #[.slice a fs.length cap, .string x, .string y] w fun e w' => e = .returned (.bool (foesB fs x y)) ∧ Below w.heap.size w w' := by
  rw [← foes_hit]
  go_enter Tryz.func133, Tryz.ntmps133
  go_wp2_with fail
  refine (containsF_any a cap fs x y _ hm hl).mono ?_
  rintro e w1 ⟨rfl, hb⟩
  cases h1 : hasF fs x y with
  | true =>
    go_wp2
    go_ret
    exact ⟨ret_bool (by rw [h1]; rfl), hb⟩
  | false =>
  go_wp2_with fail
  refine (containsF_any a cap fs y x _ (hm.later hb) hl).mono ?_
  rintro e w2 ⟨rfl, hb2⟩
  go_wp2
  go_ret
  exact ⟨ret_bool (by simp [h1]), hb.trans (hb2.mono hb.size)⟩

set_option maxHeartbeats 1000000 in
theorem mayOk1_any (bb : Nat) (a : Option Addr) (cap : Nat) (fs : List Foe) (x y : ByteArray) (w : World) (hc : w.cell? ⟨bb, 0, none⟩ = some (.slice a fs.length cap)) (hm : FoesAt w a fs) (hl : fs.length ≤ maxLen) :
    Calls Tryz.prog 200 #[.string x, .string y, .pointer (some ⟨bb, 0, none⟩)] w fun e w' => e = .returned (.bool (!foesB fs x y)) ∧ Below w.heap.size w w' := by
  go_enter Tryz.func200, Tryz.ntmps200
  go_wp2_with fail
  refine (areFoes_any a cap fs x y _ hm hl).mono ?_
  rintro e w1 ⟨rfl, hb⟩
  go_wp2
  go_ret
  exact ⟨ret_bool rfl, hb⟩

end Go.Proofs.YtfmhkicncgccjaaGreatDoor

/- What the program's everyPair and mayOk answer. -/
namespace Go.Proofs.YtfmhkicncgccjaaGreatDoor
open Go.RowKit Go.Sort
set_option linter.unusedSimpArgs false
set_option linter.unusedVariables false

/-- No two of a list are foes, the earlier one first. -/
def pairsB (fs : List Foe) (ss : List ByteArray) : Bool := allTo ss.length (fun i => allTo (ss.length - (i + 1)) (fun j => !foesB fs (gs ss i) (gs ss (i + 1 + j))))

theorem StrsAt.drop {w : World} {b o : Nat} {ss : List ByteArray} (h : StrsAt w (some ⟨b, o, none⟩) ss) {k j : Nat} (hj : k + j < ss.length) :
    b < w.heap.size ∧ w.cell? ⟨b, o + k + j, none⟩ = some (.string (gs ss (k + j))) := by
  obtain ⟨b', o', ha, hb, hc⟩ := h.at hj
  simp only [Option.some.injEq, Addr.mk.injEq, and_true] at ha
  obtain ⟨rfl, rfl⟩ := ha
  exact ⟨hb, by rw [Nat.add_assoc]; exact hc⟩

set_option maxHeartbeats 1000000 in
theorem everyPair_any (bb : Nat) (af : Option Addr) (cf : Nat) (fs : List Foe) (a : Option Addr) (cap : Nat) (ss : List ByteArray) (w : World) (hcell : w.cell? ⟨bb, 0, none⟩ = some (.slice af fs.length cf)) (hm : FoesAt w af fs) (hl : fs.length ≤ maxLen)
    (hs : StrsAt w a ss) (hls : ss.length ≤ maxLen) (hcap : ss.length ≤ cap) :
    Calls Tryz.prog 131 #[.slice a ss.length cap, .func (.func 200) #[] #[.pointer (some ⟨bb, 0, none⟩)]] w fun e w' => e = .returned (.bool (pairsB fs ss)) ∧ Below w.heap.size w w' := by
  have hls' := hls
  unfold maxLen at hls'
  go_enter Tryz.func131, Tryz.ntmps131
  go_wp2
  go_loopw [5, 6, 8, 11] (fun _ _ _ i wr => ∃ (k : Nat), k ≤ ss.length ∧ i = .int .i64 k ∧ allTo k (fun i => allTo (ss.length - (i + 1)) (fun j => !foesB fs (gs ss i) (gs ss (i + 1 + j)))) = true ∧ Below w.heap.size w wr) (fun _ _ _ i _ => ss.length - (intOf i).toNat)
  case atStart => exact ⟨0, Nat.zero_le _, rfl, rfl, Below.refl _ _⟩
  case round wr =>
    obtain ⟨k, hk, rfl, hall, hbel⟩ := hrel
    by_cases hlt : k < ss.length
    · obtain ⟨b, o, ha, hb, hc⟩ := (hs.later hbel).at hlt
      subst ha
      go_wp2
      all_goals try (have hce : cap = k + 1 := (by assumption); subst hce)
      all_goals
        go_loopw [8, 21] (fun _ i wv => ∃ (j : Nat) (w2 : World), w2 = wv ∧ j ≤ ss.length - (k + 1) ∧ i = .int .i64 j ∧ allTo j (fun j => !foesB fs (gs ss k) (gs ss (k + 1 + j))) = true ∧ Below wr.heap.size wr w2) (fun _ i _ => (ss.length - (k + 1)) - (intOf i).toNat)
        case atStart => exact ⟨0, _, rfl, Nat.zero_le _, rfl, rfl, Below.refl _ _⟩
        case round =>
          obtain ⟨j, w2, rfl, hj, rfl, hallj, hb2⟩ := hrel
          have hbw2 := hbel.trans (hb2.mono hbel.size)
          by_cases hj2 : j < ss.length - (k + 1)
          · first
              | (exfalso; omega)
              | (obtain ⟨hbj, hcj⟩ := (hs.later hbw2).drop (k := k + 1) (j := j) (by omega)
                 have hpc := cell_later hbw2 hcell
                 have hj3 : (j : Int) < ((ss.length - (k + 1) : Nat) : Int) := by omega
                 go_wp2_with fail
                 refine (mayOk1_any bb af cf fs (gs ss k) (gs ss (k + 1 + j)) _ hpc (hm.later hbw2) hl).mono ?_
                 rintro e w3 ⟨rfl, hb3⟩
                 have hb4 := hb2.trans (hb3.mono hb2.size)
                 cases hq : foesB fs (gs ss k) (gs ss (k + 1 + j)) with
                 | true =>
                   go_wp2
                   go_ret
                   refine ⟨ret_bool ?_, hbel.trans (hb4.mono hbel.size)⟩
                   exact (allTo_false k hlt (allTo_false j hj2 (by rw [hq]; rfl))).symm
                 | false =>
                   go_wp2
                   go_roundw
                   case rel => exact ⟨j + 1, _, rfl, by omega, by go_num, allTo_succ hallj (by rw [hq]; rfl), hb4⟩
                   case measure => simp [intOf]; omega)
          · have hjj : j = ss.length - (k + 1) := by omega
            have hin : allTo (ss.length - (k + 1)) (fun j => !foesB fs (gs ss k) (gs ss (k + 1 + j))) = true := by rw [← hjj]; exact hallj
            have HI : Hid (allTo (ss.length - (k + 1)) (fun j => !foesB fs (gs ss k) (gs ss (k + 1 + j))) = true) := hin
            clear hin hjj
            go_wp2
            go_roundw
            case rel => exact ⟨k + 1, by omega, by go_num, allTo_succ hall HI.out, hbw2⟩
            case measure => simp [intOf]; omega
    · go_wp2
      go_ret
      have : k = ss.length := by omega
      subst this
      exact ⟨ret_bool hall.symm, hbel⟩

set_option maxHeartbeats 1000000 in
theorem mayOk_any (af : Option Addr) (cf : Nat) (fs : List Foe) (a : Option Addr) (cap : Nat) (ss : List ByteArray) (w : World) (hm : FoesAt w af fs) (hl : fs.length ≤ maxLen) (hs : StrsAt w a ss) (hf : Fit ss) (hcap : ss.length ≤ cap) :
    Calls Tryz.prog 171 #[.slice af fs.length cf, .slice a ss.length cap] w fun e w' => e = .returned (.bool (namesB ss 8 && pairsB fs ss)) ∧ Below w.heap.size w w' := by
  have b0 : Below w.heap.size w (w.alloc (.cells #[.slice af fs.length cf] 34)) := (Below.refl _ _).alloc (Nat.le_refl _) _
  have i0 := Row.new w 34 [.slice af fs.length cf]
  go_enter Tryz.func171, Tryz.ntmps171
  go_wp2_with fail
  refine (namesOk_any a cap ss 8 _ (hs.later b0) hf).mono ?_
  rintro e w1 ⟨rfl, hb⟩
  have b1 := b0.trans (hb.mono b0.size)
  have i1 := i0.later hb
  cases h1 : namesB ss 8 with
  | false =>
    go_wp2
    go_ret
    exact ⟨ret_bool (by rw [h1]; rfl), b1⟩
  | true =>
  go_wp2_with fail
  refine (everyPair_any w.heap.size af cf fs a cap ss _ (i1.cell 0 rfl) (hm.later b1) hl (hs.later b1) hf.1 hcap).mono ?_
  rintro e w2 ⟨rfl, hb2⟩
  go_wp2
  go_ret
  exact ⟨ret_bool (by simp [h1]), b1.trans (hb2.mono b1.size)⟩

end Go.Proofs.YtfmhkicncgccjaaGreatDoor

/- What the program's spotsOk and valvesOk answer. -/
namespace Go.Proofs.YtfmhkicncgccjaaGreatDoor
open Go.RowKit Go.Sort
set_option linter.unusedSimpArgs false
set_option linter.unusedVariables false

def levelsB (s : Spot) : Bool := inB s.cap 0 1000 && decide (0 ≤ s.least) && decide (s.least ≤ s.most) && decide (s.most ≤ s.cap)

set_option maxHeartbeats 1000000 in
theorem levelsOk_any (s : Spot) (m : Option Addr) (c : Nat) (w : World) :
    Calls Tryz.prog 170 #[spotV s m c] w fun e w' => e = .returned (.bool (levelsB s)) ∧ Below w.heap.size w w' := by
  unfold spotV
  have b0 : Below w.heap.size w (w.alloc (.cells #[.string s.name, .int .i64 s.cap, .int .i64 s.least, .int .i64 s.most, .slice m s.may.length c] 99)) := (Below.refl _ _).alloc (Nat.le_refl _) _
  go_enter Tryz.func170, Tryz.ntmps170
  go_wp2_with fail
  refine (within_any _ _ _ _).mono ?_
  rintro e w' ⟨rfl, rfl⟩
  cases h1 : inB s.cap 0 1000 with
  | false =>
    go_wp2
    go_ret
    exact ⟨ret_bool (by simp [levelsB, h1]), b0⟩
  | true =>
    go_wp2
    all_goals go_ret
    all_goals refine ⟨ret_bool ?_, b0⟩
    all_goals (rw [Bool.eq_iff_iff]; simp [levelsB, h1]; try omega)

set_option maxHeartbeats 400000 in
theorem spotsOk1_any (s t : Spot) (m m' : Option Addr) (c c' : Nat) (w : World) :
    Calls Tryz.prog 173 #[spotV s m c, spotV t m' c'] w fun e w' => e = .returned (.bool (ltS s.name t.name)) ∧ Below w.heap.size w w' := by
  unfold spotV
  go_enter Tryz.func173, Tryz.ntmps173
  go_wp2
  go_ret
  exact ⟨rfl, ((Below.refl _ _).alloc (Nat.le_refl _) _).alloc (by simp) _⟩

def ascSB (fs : List Spot) : Bool := allTo fs.length (fun k => k == 0 || ltS (gp fs (k - 1)).name (gp fs k).name)

set_option maxHeartbeats 1000000 in
theorem ascendingS_any (a : Option Addr) (cap : Nat) (us : List Spot) (w : World) (hm : SpotsAt w a us) (hl : us.length ≤ maxLen) :
    Calls Tryz.prog 172 #[.slice a us.length cap, .func (.func 173) #[] #[]] w fun e w' => e = .returned (.bool (ascSB us)) ∧ Below w.heap.size w w' := by
  unfold maxLen at hl
  go_enter Tryz.func172, Tryz.ntmps172
  go_wp2
  go_loopw [5] (fun i wr => ∃ (k : Nat), (k ≤ us.length ∨ k = 1) ∧ 1 ≤ k ∧ i = .int .i64 k ∧ allTo k (fun k => k == 0 || ltS (gp us (k - 1)).name (gp us k).name) = true ∧ Below w.heap.size w wr) (fun i _ => us.length - (intOf i).toNat)
  case atStart => exact ⟨1, Or.inr rfl, Nat.le_refl _, rfl, rfl, Below.refl _ _⟩
  case round wr =>
    obtain ⟨k, hk, hk1, rfl, hall, hbel⟩ := hrel
    by_cases hlt : k < us.length
    · obtain ⟨j, rfl⟩ : ∃ j, k = j + 1 := ⟨k - 1, by omega⟩
      obtain ⟨b, o, m1, c1, ha, hb, hc0, hc1, hc2, hc3, hc4, -⟩ := (hm.later hbel).at hlt
      obtain ⟨b', o', m2, c2, ha', hb', hd0, hd1, hd2, hd3, hd4, -⟩ := (hm.later hbel).at (k := j) (by omega)
      subst ha
      simp only [Option.some.injEq, Addr.mk.injEq, and_true] at ha'
      obtain ⟨rfl, rfl⟩ := ha'
      have r0 := cell_regrown hc0
      have r1 := cell_regrown hc1
      have r2 := cell_regrown hc2
      have r3 := cell_regrown hc3
      have r4 := cell_regrown hc4
      have s0 := cell_regrown hd0
      have s1 := cell_regrown hd1
      have s2 := cell_regrown hd2
      have s3 := cell_regrown hd3
      have s4 := cell_regrown hd4
      have hcall := fun d os => Calls.regrown_of (w := wr) (spotsOk1_any (gp us j) (gp us (j + 1)) m2 m1 c2 c1 (grow (redrawn wr d) os))
      unfold spotV at hcall
      have hwrap : IntKind.i64.wrap (j : Int) = j := by rw [IntKind.wrap_i64]; omega
      have hj1 : (j : Int) < us.length := by omega
      have hj2 : (j : Int) + 1 < us.length := by omega
      have hj3 : (0 : Int) ≤ (j : Int) + 1 := by omega
      have hj4 : ((j : Int) + 1).toNat = j + 1 := by omega
      clear hc0 hc1 hc2 hc3 hc4 hd0 hd1 hd2 hd3 hd4
      go_wp2
      refine wp_region_quiet_below (by kernel_rfl) (by kernel_rfl) ?_
      repeat (quiet_step (with_reducible exact hcall _ _))
      refine wpQuiet_nil ?_
      intro w1 hw'
      obtain ⟨⟨dq, osq⟩, hw''⟩ := hw'
      have hbel1 : Below w.heap.size w w1 := hbel.trans ((hw'' ▸ below_regrown wr dq osq).mono hbel.size)
      clear hw'' hcall r0 r1 r2 r3 r4 s0 s1 s2 s3 s4
      cases hq : ltS (gp us j).name (gp us (j + 1)).name with
      | true =>
        go_wp2
        go_roundw
        case rel => exact ⟨j + 1 + 1, by omega, by omega, by go_num, allTo_succ hall (by simp [hq]), hbel1⟩
        case measure => simp [intOf]; omega
      | false =>
        go_wp2
        go_ret
        exact ⟨ret_bool (allTo_false (j + 1) hlt (by simp [hq])).symm, hbel1⟩
    · go_wp2
      go_ret
      refine ⟨ret_bool ?_, hbel⟩
      refine (allTo_iff.2 fun i hi => ?_).symm
      exact allTo_iff.1 hall i (by omega)

/-- A spot by itself, as the program asks. -/
def spotAtI' (fs : List Foe) (s : Spot) : Bool := nameB s.name && levelsB s && (namesB s.may 8 && pairsB fs s.may)

set_option maxRecDepth 100000 in
set_option maxHeartbeats 2000000 in
theorem spotsOk_any (x : Book) (af ap av aq : Option Addr) (cf cp cv cq : Nat) (w : World) (hmf : FoesAt w af x.foes) (hlf : x.foes.length ≤ maxLen) (hm : SpotsAt w ap x.spots) (hf : SpotsFit x.spots) :
    Calls Tryz.prog 142 #[bookV x af ap av aq cf cp cv cq] w fun e w' => e = .returned (.bool (decide ((x.spots.length : Int) ≤ 8) && allTo x.spots.length (fun k => spotAtI' x.foes (gp x.spots k)) && ascSB x.spots)) ∧ Below w.heap.size w w' := by
  have hl := hf.len
  unfold maxLen at hl
  unfold bookV
  by_cases hmany : 8 < (x.spots.length : Int)
  · go_enter Tryz.func142, Tryz.ntmps142
    go_wp2
    go_ret
    exact ⟨ret_bool (by rw [decide_eq_false (by omega)]; rfl), (Below.refl _ _).alloc (Nat.le_refl _) _⟩
  · go_enter Tryz.func142, Tryz.ntmps142
    go_wp2
    go_loopw [4, 12] (fun _ i wr => ∃ (k : Nat), k ≤ x.spots.length ∧ i = .int .i64 k ∧ allTo k (fun k => spotAtI' x.foes (gp x.spots k)) = true ∧ Below (w.alloc (.cells (bookL x af ap av aq cf cp cv cq).toArray 38)).heap.size (w.alloc (.cells (bookL x af ap av aq cf cp cv cq).toArray 38)) wr) (fun _ i _ => x.spots.length - (intOf i).toNat)
    case atStart => exact ⟨0, Nat.zero_le _, rfl, rfl, Below.refl _ _⟩
    case round wr =>
      obtain ⟨k, hk, rfl, hall, hbel⟩ := hrel
      have hbw := below_over hbel
      have bk := bookRow hbel
      by_cases hlt : k < x.spots.length
      · obtain ⟨b, o, m, c, ha, hb, hc0, hc1, hc2, hc3, hc4, hst, hcc⟩ := (hm.later hbw).atCap hlt
        have hsz := hf.names _ (gp_mem hlt)
        have hba : Below wr.heap.size wr (wr.alloc (.cells #[.string (gp x.spots k).name, .int .i64 (gp x.spots k).cap, .int .i64 (gp x.spots k).least, .int .i64 (gp x.spots k).most, .slice m (gp x.spots k).may.length c] 99)) := (Below.refl _ _).alloc (Nat.le_refl _) _
        have frow := Row.new wr 99 [.string (gp x.spots k).name, .int .i64 (gp x.spots k).cap, .int .i64 (gp x.spots k).least, .int .i64 (gp x.spots k).most, .slice m (gp x.spots k).may.length c]
        have hbela := hbel.trans (hba.mono hbel.size)
        have bka := bk.later hba
        have hsta := hst.later hba
        subst ha
        go_wp2_with fail
        refine (nameOk_any (gp x.spots k).name _ hsz.1).mono ?_
        rintro e w1 ⟨rfl, hb1⟩
        have row1 := frow.later hb1
        have bk1 := bka.later hb1
        have hst1 := hsta.later hb1
        have hbel1 := hbela.trans (hb1.mono hbela.size)
        clear hc0 hc1 hc2 hc3 hc4 hba frow hbela bka hsta hb1
        cases hq1 : nameB (gp x.spots k).name with
        | false =>
          go_wp2
          go_ret
          exact ⟨ret_bool (by rw [allTo_false k hlt (by simp [spotAtI', hq1])]; simp), below_over hbel1⟩
        | true =>
        have f0 := row1.cell 0 rfl
        have f1 := row1.cell 1 rfl
        have f2 := row1.cell 2 rfl
        have f3 := row1.cell 3 rfl
        have f4 := row1.cell 4 rfl
        go_wp2_with fail
        refine (levelsOk_any (gp x.spots k) m c _).mono ?_
        rintro e w2 ⟨rfl, hb2⟩
        have f5 := cell_later hb2 f4
        have bk2 := bk1.later hb2
        have hst2 := hst1.later hb2
        have hbel2 := hbel1.trans (hb2.mono hbel1.size)
        clear f0 f1 f2 f3 f4 row1 bk1 hst1 hb2
        cases hq2 : levelsB (gp x.spots k) with
        | false =>
          go_wp2
          go_ret
          exact ⟨ret_bool (by rw [allTo_false k hlt (by simp [spotAtI', hq2])]; simp), below_over hbel2⟩
        | true =>
        have g0 := bk2.cell 0 rfl
        go_wp2_with fail
        refine (mayOk_any af cf x.foes m c (gp x.spots k).may _ (hmf.later (below_over hbel2)) hlf hst2 hsz.2 hcc).mono ?_
        rintro e w3 ⟨rfl, hb3⟩
        have hbel3 := hbel2.trans (hb3.mono hbel2.size)
        cases hq3 : (namesB (gp x.spots k).may 8 && pairsB x.foes (gp x.spots k).may) with
        | false =>
          go_wp2
          go_ret
          exact ⟨ret_bool (by rw [allTo_false k hlt (by unfold spotAtI'; rw [hq3, Bool.and_false])]; simp), below_over hbel3⟩
        | true =>
          go_wp2
          go_roundw
          case rel => exact ⟨k + 1, by omega, by go_num, allTo_succ hall (by unfold spotAtI'; rw [hq1, hq2, hq3]; rfl), hbel3⟩
          case measure => simp [intOf]; omega
      · have : k = x.spots.length := by omega
        subst this
        have y1 := bk.cell 1 rfl
        go_wp2_with fail
        refine (ascendingS_any ap cp x.spots _ (hm.later hbw) hf.len).mono ?_
        rintro e w1 ⟨rfl, hb1⟩
        go_wp2
        go_ret
        exact ⟨ret_bool (by rw [hall, decide_eq_true (by omega)]; rfl), hbw.trans (hb1.mono hbw.size)⟩

set_option maxHeartbeats 1000000 in
theorem valvesOk_any (x : Book) (af ap av aq : Option Addr) (cf cp cv cq : Nat) (w : World) (hv : StrsAt w av x.valves) (hf : Fit x.valves) :
    Calls Tryz.prog 143 #[bookV x af ap av aq cf cp cv cq] w fun e w' => e = .returned (.bool (namesB x.valves 12 && inB x.seen 0 1000000)) ∧ Below w.heap.size w w' := by
  unfold bookV
  have b0 : Below w.heap.size w (w.alloc (.cells #[.slice af x.foes.length cf, .slice ap x.spots.length cp, .slice av x.valves.length cv, .slice aq x.parts.length cq, .int .i64 x.seen] 38)) := (Below.refl _ _).alloc (Nat.le_refl _) _
  have i0 := Row.new w 38 (bookL x af ap av aq cf cp cv cq)
  go_enter Tryz.func143, Tryz.ntmps143
  go_wp2_with fail
  refine (namesOk_any av cv x.valves 12 _ (hv.later b0) hf).mono ?_
  rintro e w1 ⟨rfl, hb⟩
  have y4 := (i0.later hb).cell 4 rfl
  cases h1 : namesB x.valves 12 with
  | false =>
    go_wp2
    go_ret
    exact ⟨ret_bool (by rw [h1]; rfl), b0.trans (hb.mono b0.size)⟩
  | true =>
  go_wp2_with fail
  refine (within_any _ _ _ _).mono ?_
  rintro e w' ⟨rfl, rfl⟩
  go_wp2
  go_ret
  exact ⟨ret_bool (by simp [h1]), b0.trans (hb.mono b0.size)⟩

end Go.Proofs.YtfmhkicncgccjaaGreatDoor

/- What the program's spotAt, allIn, knows answer. -/
namespace Go.Proofs.YtfmhkicncgccjaaGreatDoor
open Go.RowKit Go.Sort
set_option linter.unusedSimpArgs false
set_option linter.unusedVariables false

set_option maxHeartbeats 400000 in
theorem spotAt1_any (s : Spot) (m : Option Addr) (c : Nat) (bb : Nat) (name : ByteArray) (w : World) (hc : w.cell? ⟨bb, 0, none⟩ = some (.string name)) (hbb : bb < w.heap.size) :
    Calls Tryz.prog 115 #[spotV s m c, .pointer (some ⟨bb, 0, none⟩)] w fun e w' => e = .returned (.bool (eqS s.name name)) ∧ Below w.heap.size w w' := by
  unfold spotV
  have hne : bb ≠ w.heap.size := by omega
  go_enter Tryz.func115, Tryz.ntmps115
  go_wp2
  go_ret
  exact ⟨rfl, (Below.refl _ _).alloc (Nat.le_refl _) _⟩

set_option maxHeartbeats 1000000 in
theorem indexFunc_any (a : Option Addr) (cap : Nat) (ps : List Spot) (bb : Nat) (name : ByteArray) (w : World) (hc : w.cell? ⟨bb, 0, none⟩ = some (.string name)) (hbb : bb < w.heap.size) (hm : SpotsAt w a ps) (hl : ps.length ≤ maxLen) :
    Calls Tryz.prog 114 #[.slice a ps.length cap, .func (.func 115) #[] #[.pointer (some ⟨bb, 0, none⟩)]] w fun e w' => e = .returned (.int .i64 (spotI ps name)) ∧ Below w.heap.size w w' := by
  unfold maxLen at hl
  go_enter Tryz.func114, Tryz.ntmps114
  go_wp2
  go_loopw [5, 8] (fun _ i wr => ∃ (k : Nat), k ≤ ps.length ∧ i = .int .i64 k ∧ allTo k (fun i => !eqS (gp ps i).name name) = true ∧ Below w.heap.size w wr) (fun _ i _ => ps.length - (intOf i).toNat)
  case atStart => exact ⟨0, Nat.zero_le _, rfl, rfl, Below.refl _ _⟩
  case round wr =>
    obtain ⟨k, hk, rfl, hall, hbel⟩ := hrel
    by_cases hlt : k < ps.length
    · obtain ⟨b, o, m, c, ha, hb, hc0, hc1, hc2, hc3, hc4, -⟩ := (hm.later hbel).at hlt
      subst ha
      have hpc := cell_later hbel hc
      have hbb2 := Nat.lt_of_lt_of_le hbb hbel.size
      go_wp2_with fail
      refine (spotAt1_any (gp ps k) m c bb name _ hpc hbb2).mono ?_
      rintro e w1 ⟨rfl, hb1⟩
      have hb2 := hbel.trans (hb1.mono hbel.size)
      clear hc0 hc1 hc2 hc3 hc4
      cases hq : eqS (gp ps k).name name with
      | true =>
        go_wp2
        go_ret
        exact ⟨congrArg (fun z => Ending.returned (.int .i64 z)) (spotI_hit hlt hall hq).symm, hb2⟩
      | false =>
        go_wp2
        go_roundw
        case rel => exact ⟨k + 1, by omega, by go_num, allTo_succ hall (by simp [hq]), hb2⟩
        case measure => simp [intOf]; omega
    · go_wp2
      go_ret
      have : k = ps.length := by omega
      subst this
      exact ⟨congrArg (fun z => Ending.returned (.int .i64 z)) (spotI_none hall).symm, hbel⟩

set_option maxHeartbeats 1000000 in
theorem spotAt_any (a : Option Addr) (cap : Nat) (ps : List Spot) (name : ByteArray) (w : World) (hm : SpotsAt w a ps) (hl : ps.length ≤ maxLen) :
    Calls Tryz.prog 94 #[.slice a ps.length cap, .string name] w fun e w' => e = .returned (.int .i64 (spotI ps name)) ∧ Below w.heap.size w w' := by
  have b0 : Below w.heap.size w (w.alloc (.cells #[.string name] 9)) := (Below.refl _ _).alloc (Nat.le_refl _) _
  have i0 := Row.new w 9 [.string name]
  go_enter Tryz.func94, Tryz.ntmps94
  go_wp2_with fail
  refine (indexFunc_any a cap ps w.heap.size name _ (i0.cell 0 rfl) i0.lt (hm.later b0) hl).mono ?_
  rintro e w1 ⟨rfl, hb⟩
  go_wp2
  go_ret
  exact ⟨rfl, b0.trans (hb.mono b0.size)⟩

set_option maxHeartbeats 400000 in
theorem allIn_any (a b : Option Addr) (ca cb : Nat) (xs ys : List ByteArray) (w : World) (hx : StrsAt w a xs) (hy : StrsAt w b ys) (lx : xs.length ≤ maxLen) (ly : ys.length ≤ maxLen) :
    Calls Tryz.prog 153 #[.slice a xs.length ca, .slice b ys.length cb] w fun e w' => e = .returned (.bool (allB xs ys)) ∧ w = w' := by
  have lx' := lx
  unfold maxLen at lx'
  go_enter Tryz.func153, Tryz.ntmps153
  go_wp2
  go_loop [6, 9] (fun _ i => ∃ (k : Nat), k ≤ xs.length ∧ i = .int .i64 k ∧ allTo k (fun i => hasB ys (gs xs i)) = true) (fun _ i => xs.length - (intOf i).toNat)
  case atStart => exact ⟨0, Nat.zero_le _, rfl, rfl⟩
  case round =>
    obtain ⟨k, hk, rfl, hall⟩ := hrel
    by_cases hlt : k < xs.length
    · obtain ⟨b1, o1, ha, hb, hc⟩ := hx.at hlt
      subst ha
      cases hq : hasB ys (gs xs k) with
      | true =>
        go_wp2_with (go_at_call 182; refine (contains_any b cb ys (gs xs k) _ hy ly).mono ?_; rintro e w1 ⟨rfl, rfl⟩; rw [hq])
        go_round
        case rel => exact ⟨k + 1, by omega, by go_num, allTo_succ hall hq⟩
        case measure => simp [intOf]; omega
      | false =>
        go_wp2_with (go_at_call 182; refine (contains_any b cb ys (gs xs k) _ hy ly).mono ?_; rintro e w1 ⟨rfl, rfl⟩; rw [hq])
        go_ret
        exact ⟨ret_bool (allTo_false k hlt hq).symm, rfl⟩
    · go_wp2
      go_ret
      have : k = xs.length := by omega
      subst this
      exact ⟨ret_bool hall.symm, rfl⟩

set_option maxRecDepth 100000 in
set_option maxHeartbeats 2000000 in
theorem knows_any (x : Book) (af ap av aq : Option Addr) (cf cp cv cq : Nat) (y : Want) (a2 a3 a4 a5 : Option Addr) (c2 c3 c4 c5 : Nat) (w : World) (hx : BookIn w x af ap av aq) (hy : WantIn w y a2 a3 a4 a5) (fx : BookFit x) (fy : WantFit y) :
    Calls Tryz.prog 125 #[bookV x af ap av aq cf cp cv cq, wantW y a2 a3 a4 a5 c2 c3 c4 c5] w fun e w' => e = .returned (.bool (knowsB x y)) ∧ Below w.heap.size w w' := by
  have hl3 := fy.usesLen
  unfold maxLen at hl3
  unfold bookV wantW
  have b0 : Below w.heap.size w ((w.alloc (.cells (bookL x af ap av aq cf cp cv cq).toArray 38)).alloc (.cells (wantL y a2 a3 a4 a5 c2 c3 c4 c5).toArray 42)) :=
    ((Below.refl _ _).alloc (Nat.le_refl _) _).alloc (by simp) _
  have i0 : Row ((w.alloc (.cells (bookL x af ap av aq cf cp cv cq).toArray 38)).alloc (.cells (wantL y a2 a3 a4 a5 c2 c3 c4 c5).toArray 42)) w.heap.size 38 (bookL x af ap av aq cf cp cv cq) := (Row.new w 38 (bookL x af ap av aq cf cp cv cq)).alloc _
  have o0 : Row ((w.alloc (.cells (bookL x af ap av aq cf cp cv cq).toArray 38)).alloc (.cells (wantL y a2 a3 a4 a5 c2 c3 c4 c5).toArray 42)) (w.heap.size + 1) 42 (wantL y a2 a3 a4 a5 c2 c3 c4 c5) := by
    have := Row.new (w.alloc (.cells (bookL x af ap av aq cf cp cv cq).toArray 38)) 42 (wantL y a2 a3 a4 a5 c2 c3 c4 c5)
    simpa using this
  go_enter Tryz.func125, Tryz.ntmps125
  go_wp2
  go_loopw [6, 10] (fun _ i wr => ∃ (k : Nat), k ≤ y.uses.length ∧ i = .int .i64 k ∧ allTo k (fun i => decide (0 ≤ spotI x.spots (gu y.uses i).name)) = true ∧ Below ((w.alloc (.cells (bookL x af ap av aq cf cp cv cq).toArray 38)).alloc (.cells (wantL y a2 a3 a4 a5 c2 c3 c4 c5).toArray 42)).heap.size ((w.alloc (.cells (bookL x af ap av aq cf cp cv cq).toArray 38)).alloc (.cells (wantL y a2 a3 a4 a5 c2 c3 c4 c5).toArray 42)) wr) (fun _ i _ => y.uses.length - (intOf i).toNat)
  case atStart => exact ⟨0, Nat.zero_le _, rfl, rfl, Below.refl _ _⟩
  case round wr =>
    obtain ⟨k, hk, rfl, hall, hbel⟩ := hrel
    have hbw := b0.trans (hbel.mono b0.size)
    have i1 := i0.later hbel
    have o1 := o0.later hbel
    clear i0 o0
    by_cases hlt : k < y.uses.length
    · obtain ⟨b, o, ha, hb, hc0, hc1, hc2⟩ := (hy.later hbw).uses.at hlt
      have y1 := i1.cell 1 rfl
      have hzi := i1.lt
      have hba : Below wr.heap.size wr (wr.alloc (.cells #[.string (gu y.uses k).name, .int .i64 (gu y.uses k).role, .int .i64 (gu y.uses k).amount] 101)) := (Below.refl _ _).alloc (Nat.le_refl _) _
      have hbwa := hbw.trans (hba.mono hbw.size)
      subst ha
      go_wp2_with fail
      refine (spotAt_any ap cp x.spots (gu y.uses k).name _ (hx.later hbwa).spots fx.spots.len).mono ?_
      rintro e w2 ⟨rfl, hb2⟩
      have hbel1 := hbel.trans ((hba.trans (hb2.mono hba.size)).mono hbel.size)
      clear hc0 hc1 hc2 i1 o1 hba hbwa hb2
      generalize hsp : spotI x.spots (gu y.uses k).name = sp
      have HSP : Hid (spotI x.spots (gu y.uses k).name = sp) := hsp
      clear hsp
      by_cases hq : sp < 0
      · go_wp2
        go_ret
        exact ⟨ret_bool (by unfold knowsB; rw [allTo_false k hlt (by rw [HSP.out]; exact decide_eq_false (by omega))]; rfl), b0.trans (hbel1.mono b0.size)⟩
      · go_wp2
        go_roundw
        case rel => exact ⟨k + 1, by omega, by go_num, allTo_succ hall (by rw [HSP.out]; exact decide_eq_true (by omega)), hbel1⟩
        case measure => simp [intOf]; omega
    · have hkk : k = y.uses.length := by omega
      have HA1 : Hid (allTo y.uses.length (fun i => decide (0 ≤ spotI x.spots (gu y.uses i).name)) = true) := by rw [← hkk]; exact hall
      clear hall hkk
      have y2 := i1.cell 2 rfl
      have z4 := o1.cell 4 rfl
      have z5 := o1.cell 5 rfl
      go_wp2_with fail
      refine (allIn_any a4 av c4 cv y.opens x.valves _ (hy.later hbw).opens (hx.later hbw).valves fy.opens.1 fx.valves.1).mono ?_
      rintro e w2 ⟨rfl, rfl⟩
      cases hq : allB y.opens x.valves with
      | false =>
        go_wp2
        go_ret
        exact ⟨ret_bool (by unfold knowsB; rw [hq, Bool.and_false]; rfl), hbw⟩
      | true =>
      go_wp2_with fail
      refine (allIn_any a5 av c5 cv y.shuts x.valves _ (hy.later hbw).shuts (hx.later hbw).valves fy.shuts.1 fx.valves.1).mono ?_
      rintro e w2 ⟨rfl, rfl⟩
      go_wp2
      go_ret
      exact ⟨ret_bool (by unfold knowsB; rw [HA1.out, hq]; simp), hbw⟩

end Go.Proofs.YtfmhkicncgccjaaGreatDoor

/- What the program's partsOk answers. -/
namespace Go.Proofs.YtfmhkicncgccjaaGreatDoor
open Go.RowKit Go.Sort
set_option linter.unusedSimpArgs false
set_option linter.unusedVariables false

set_option maxHeartbeats 400000 in
theorem partsOk1_any (p q : Part) (a2 a3 a4 a5 : Option Addr) (c2 c3 c4 c5 : Nat) (e2 e3 e4 e5 : Option Addr) (d2 d3 d4 d5 : Nat) (w : World) :
    Calls Tryz.prog 175 #[partV p a2 a3 a4 a5 c2 c3 c4 c5, partV q e2 e3 e4 e5 d2 d3 d4 d5] w fun e w' => e = .returned (.bool (decide (p.want.number < q.want.number))) ∧ Below w.heap.size w w' := by
  unfold partV
  go_enter Tryz.func175, Tryz.ntmps175
  go_wp2
  go_ret
  exact ⟨rfl, ((Below.refl _ _).alloc (Nat.le_refl _) _).alloc (by simp) _⟩

def ascPB (ps : List Part) : Bool := allTo ps.length (fun k => k == 0 || decide ((gq ps (k - 1)).want.number < (gq ps k).want.number))

set_option maxRecDepth 100000 in
set_option maxHeartbeats 1000000 in
theorem ascendingP_any (a : Option Addr) (cap : Nat) (us : List Part) (w : World) (hm : PartsAt w a us) (hl : us.length ≤ maxLen) :
    Calls Tryz.prog 174 #[.slice a us.length cap, .func (.func 175) #[] #[]] w fun e w' => e = .returned (.bool (ascPB us)) ∧ Below w.heap.size w w' := by
  unfold maxLen at hl
  go_enter Tryz.func174, Tryz.ntmps174
  go_wp2
  go_loopw [5] (fun i wr => ∃ (k : Nat), (k ≤ us.length ∨ k = 1) ∧ 1 ≤ k ∧ i = .int .i64 k ∧ allTo k (fun k => k == 0 || decide ((gq us (k - 1)).want.number < (gq us k).want.number)) = true ∧ Below w.heap.size w wr) (fun i _ => us.length - (intOf i).toNat)
  case atStart => exact ⟨1, Or.inr rfl, Nat.le_refl _, rfl, rfl, Below.refl _ _⟩
  case round wr =>
    obtain ⟨k, hk, hk1, rfl, hall, hbel⟩ := hrel
    by_cases hlt : k < us.length
    · obtain ⟨j, rfl⟩ : ∃ j, k = j + 1 := ⟨k - 1, by omega⟩
      obtain ⟨b, o, a2, a3, a4, a5, c2, c3, c4, c5, ha, hb, hc0, hc1, hc2, hc3, hc4, hc5, hc6, -⟩ := (hm.later hbel).at hlt
      obtain ⟨b', o', x2, x3, x4, x5, g2, g3, g4, g5, ha', hb', hd0, hd1, hd2, hd3, hd4, hd5, hd6, -⟩ := (hm.later hbel).at (k := j) (by omega)
      subst ha
      simp only [Option.some.injEq, Addr.mk.injEq, and_true] at ha'
      obtain ⟨rfl, rfl⟩ := ha'
      have r0 := cell_regrown hc0
      have r1 := cell_regrown hc1
      have r2 := cell_regrown hc2
      have r3 := cell_regrown hc3
      have r4 := cell_regrown hc4
      have r5 := cell_regrown hc5
      have r6 := cell_regrown hc6
      have s0 := cell_regrown hd0
      have s1 := cell_regrown hd1
      have s2 := cell_regrown hd2
      have s3 := cell_regrown hd3
      have s4 := cell_regrown hd4
      have s5 := cell_regrown hd5
      have s6 := cell_regrown hd6
      have hcall := fun d os => Calls.regrown_of (w := wr) (partsOk1_any (gq us j) (gq us (j + 1)) x2 x3 x4 x5 g2 g3 g4 g5 a2 a3 a4 a5 c2 c3 c4 c5 (grow (redrawn wr d) os))
      unfold partV at hcall
      have hwrap : IntKind.i64.wrap (j : Int) = j := by rw [IntKind.wrap_i64]; omega
      have hj1 : (j : Int) < us.length := by omega
      have hj2 : (j : Int) + 1 < us.length := by omega
      have hj3 : (0 : Int) ≤ (j : Int) + 1 := by omega
      have hj4 : ((j : Int) + 1).toNat = j + 1 := by omega
      clear hc0 hc1 hc2 hc3 hc4 hc5 hc6 hd0 hd1 hd2 hd3 hd4 hd5 hd6
      go_wp2
      refine wp_region_quiet_below (by kernel_rfl) (by kernel_rfl) ?_
      repeat (first | go_big_quiet_step (with_reducible exact hcall _ _) | quiet_step (with_reducible exact hcall _ _))
      refine wpQuiet_nil ?_
      intro w1 hw'
      obtain ⟨⟨dq, osq⟩, hw''⟩ := hw'
      have hbel1 : Below w.heap.size w w1 := hbel.trans ((hw'' ▸ below_regrown wr dq osq).mono hbel.size)
      clear hw'' hcall r0 r1 r2 r3 r4 r5 r6 s0 s1 s2 s3 s4 s5 s6
      cases hq : decide ((gq us j).want.number < (gq us (j + 1)).want.number) with
      | true =>
        go_wp2
        go_roundw
        case rel => exact ⟨j + 1 + 1, by omega, by omega, by go_num, allTo_succ hall (by rw [Nat.add_sub_cancel, hq]; simp), hbel1⟩
        case measure => simp [intOf]; omega
      | false =>
        go_wp2
        go_ret
        exact ⟨ret_bool (allTo_false (j + 1) hlt (by rw [Nat.add_sub_cancel, hq]; simp)).symm, hbel1⟩
    · go_wp2
      go_ret
      refine ⟨ret_bool ?_, hbel⟩
      refine (allTo_iff.2 fun i hi => ?_).symm
      exact allTo_iff.1 hall i (by omega)

/-- A part by itself, as the program's partsOk asks. -/
def partAtI (x : Book) (p : Part) : Bool := decide (p.want.number ≤ x.seen) && wantB p.want && knowsB x p.want

set_option maxRecDepth 100000 in
set_option maxHeartbeats 2000000 in
theorem partsOk_any (x : Book) (af ap av aq : Option Addr) (cf cp cv cq : Nat) (w : World) (hx : BookIn w x af ap av aq) (fx : BookFit x) :
    Calls Tryz.prog 144 #[bookV x af ap av aq cf cp cv cq] w fun e w' => e = .returned (.bool (decide ((x.parts.length : Int) ≤ 6) && allTo x.parts.length (fun k => partAtI x (gq x.parts k)) && ascPB x.parts)) ∧ Below w.heap.size w w' := by
  have hl := fx.parts.len
  unfold maxLen at hl
  unfold bookV
  by_cases hmany : 6 < (x.parts.length : Int)
  · go_enter Tryz.func144, Tryz.ntmps144
    go_wp2
    go_ret
    exact ⟨ret_bool (by rw [decide_eq_false (by omega)]; rfl), (Below.refl _ _).alloc (Nat.le_refl _) _⟩
  · go_enter Tryz.func144, Tryz.ntmps144
    go_wp2
    go_loopw [4, 12] (fun _ i wr => ∃ (k : Nat), k ≤ x.parts.length ∧ i = .int .i64 k ∧ allTo k (fun k => partAtI x (gq x.parts k)) = true ∧ Below (w.alloc (.cells (bookL x af ap av aq cf cp cv cq).toArray 38)).heap.size (w.alloc (.cells (bookL x af ap av aq cf cp cv cq).toArray 38)) wr) (fun _ i _ => x.parts.length - (intOf i).toNat)
    case atStart => exact ⟨0, Nat.zero_le _, rfl, rfl, Below.refl _ _⟩
    case round wr =>
      obtain ⟨k, hk, rfl, hall, hbel⟩ := hrel
      have hbw := below_over hbel
      have bk := bookRow hbel
      by_cases hlt : k < x.parts.length
      · obtain ⟨b, o, a2, a3, a4, a5, c2, c3, c4, c5, ha, hb, hc0, hc1, hc2, hc3, hc4, hc5, hc6, hst⟩ := (hx.later hbw).parts.at hlt
        have hfp := fx.parts.wants _ (gq_mem hlt)
        have y4 := bk.cell 4 rfl
        have hz := bk.lt
        have hba : Below wr.heap.size wr (wr.alloc (.cells #[.int .i64 (gq x.parts k).want.number, .int .i64 (gq x.parts k).want.kind, .slice a2 (gq x.parts k).want.stuffs.length c2, .slice a3 (gq x.parts k).want.uses.length c3, .slice a4 (gq x.parts k).want.opens.length c4, .slice a5 (gq x.parts k).want.shuts.length c5, .bool (gq x.parts k).stopped] 60)) := (Below.refl _ _).alloc (Nat.le_refl _) _
        have frow := Row.new wr 60 (partL (gq x.parts k) a2 a3 a4 a5 c2 c3 c4 c5)
        have hbela := hbel.trans (hba.mono hbel.size)
        have bka := bk.later hba
        subst ha
        by_cases h1 : (gq x.parts k).want.number ≤ x.seen
        case neg =>
          have h1' : x.seen < (gq x.parts k).want.number := by omega
          clear h1
          go_wp2
          go_ret
          exact ⟨ret_bool (by rw [allTo_false k hlt (by unfold partAtI; rw [decide_eq_false (by omega)]; rfl)]; simp), below_over hbela⟩
        have h1' : ¬ x.seen < (gq x.parts k).want.number := by omega
        have HD : Hid (decide ((gq x.parts k).want.number ≤ x.seen) = true) := decide_eq_true h1
        go_wp2_with fail
        refine (implWantOk_any (gq x.parts k).want a2 a3 a4 a5 c2 c3 c4 c5 _ (hst.later hba) hfp).mono ?_
        rintro e w1 ⟨rfl, hb1⟩
        have row1 := frow.later hb1
        have bk1 := bka.later hb1
        have hbel1 := hbela.trans (hb1.mono hbela.size)
        have hst1 := (hst.later hba).later hb1
        clear hc0 hc1 hc2 hc3 hc4 hc5 hc6 hba frow hbela bka hb1 y4
        cases hq1 : wantB (gq x.parts k).want with
        | false =>
          go_wp2
          go_ret
          exact ⟨ret_bool (by rw [allTo_false k hlt (by simp [partAtI, hq1])]; simp), below_over hbel1⟩
        | true =>
        have f0 := row1.cell 0 rfl
        have f1 := row1.cell 1 rfl
        have f2 := row1.cell 2 rfl
        have f3 := row1.cell 3 rfl
        have f4 := row1.cell 4 rfl
        have f5 := row1.cell 5 rfl
        have y0 := bk1.cell 0 rfl
        have y1 := bk1.cell 1 rfl
        have y2 := bk1.cell 2 rfl
        have y3 := bk1.cell 3 rfl
        have y4 := bk1.cell 4 rfl
        go_wp2_with fail
        refine (knows_any x af ap av (some ⟨b, o, none⟩) cf cp cv cq (gq x.parts k).want a2 a3 a4 a5 c2 c3 c4 c5 _ (hx.later (below_over hbel1)) hst1 fx hfp).mono ?_
        rintro e w2 ⟨rfl, hb2⟩
        have hbel2 := hbel1.trans (hb2.mono hbel1.size)
        clear f0 f1 f2 f3 f4 f5 y0 y1 y2 y3 y4 row1 bk1 hb2 hst1
        cases hq2 : knowsB x (gq x.parts k).want with
        | false =>
          go_wp2
          go_ret
          exact ⟨ret_bool (by rw [allTo_false k hlt (by simp [partAtI, hq2])]; simp), below_over hbel2⟩
        | true =>
          go_wp2
          go_roundw
          case rel => exact ⟨k + 1, by omega, by go_num, allTo_succ hall (by unfold partAtI; rw [HD.out, hq1, hq2]; rfl), hbel2⟩
          case measure => simp [intOf]; omega
      · have : k = x.parts.length := by omega
        subst this
        have y3 := bk.cell 3 rfl
        go_wp2_with fail
        refine (ascendingP_any aq cq x.parts _ (hx.later hbw).parts fx.parts.len).mono ?_
        rintro e w1 ⟨rfl, hb1⟩
        go_wp2
        go_ret
        exact ⟨ret_bool (by rw [hall, decide_eq_true (by omega)]; rfl), hbw.trans (hb1.mono hbw.size)⟩

end Go.Proofs.YtfmhkicncgccjaaGreatDoor
