/- What the program's functions answer that look for foes. -/
import Derived.Test.YtfmhkicncgccjaaGreatBkS2
namespace Go.Proofs.YtfmhkicncgccjaaGreat
open Go.RowKit Go.Sort
set_option linter.unusedSimpArgs false
set_option linter.unusedVariables false

def foeIs (f : Foe) (x y : ByteArray) : Bool := eqS x f.a && eqS y f.b
def hasF (fs : List Foe) (x y : ByteArray) : Bool := anyTo fs.length (fun i => foeIs (gf fs i) x y)

theorem foes_hit (fs : List Foe) (x y : ByteArray) : (hasF fs x y || hasF fs y x) = foesB fs x y := by
  rw [Bool.eq_iff_iff, Bool.or_eq_true]
  unfold hasF foesB
  rw [anyTo_iff, anyTo_iff, anyTo_iff]
  have key : ∀ f : Foe, foeHit f x y = (foeIs f x y || foeIs f y x) := by
    intro f
    unfold foeHit foeIs
    rw [eqS_comm f.a x, eqS_comm f.b y, eqS_comm f.a y, eqS_comm f.b x]
  constructor
  · rintro (⟨i, hi, h⟩ | ⟨i, hi, h⟩)
    · exact ⟨i, hi, by rw [key, h]; rfl⟩
    · exact ⟨i, hi, by rw [key, h]; simp⟩
  · rintro ⟨i, hi, h⟩
    rw [key, Bool.or_eq_true] at h
    rcases h with h | h
    · exact Or.inl ⟨i, hi, h⟩
    · exact Or.inr ⟨i, hi, h⟩

set_option maxHeartbeats 1000000 in
theorem indexF_any (a : Option Addr) (cap : Nat) (fs : List Foe) (x y : ByteArray) (w : World) (hm : FoesAt w a fs) (hl : fs.length ≤ maxLen) :
    Calls Tryz.prog 170 #[.slice a fs.length cap, .agg #[.string x, .string y]] w fun e w' => (∃ r : Int, e = .returned (.int .i64 r) ∧ decide (0 ≤ r) = hasF fs x y) ∧ Below w.heap.size w w' := by
  unfold maxLen at hl
  go_enter Tryz.func170, Tryz.ntmps170
  go_wp2
  go_loopw [5, 8] (fun _ i wr => ∃ (k : Nat), k ≤ fs.length ∧ i = .int .i64 k ∧ allTo k (fun i => !(foeIs (gf fs i) x y)) = true ∧ Below (w.alloc (.cells #[.string x, .string y] 70)).heap.size (w.alloc (.cells #[.string x, .string y] 70)) wr) (fun _ i _ => fs.length - (intOf i).toNat)
  case atStart => exact ⟨0, Nat.zero_le _, rfl, rfl, Below.refl _ _⟩
  case round wr =>
    obtain ⟨k, hk, rfl, hall, hbel⟩ := hrel
    have hbw := below_over hbel
    have row := (Row.new w 70 [.string x, .string y]).later hbel
    have y0 := row.cell 0 rfl
    have y1 := row.cell 1 rfl
    by_cases hlt : k < fs.length
    · obtain ⟨b, o, ha, hb, hc0, hc1⟩ := (hm.later hbw).at hlt
      subst ha
      have hlt2 : (k : Int) < fs.length := by omega
      cases h1 : eqS x (gf fs k).a with
      | false =>
        have h1' : (x.toList == (gf fs k).a.toList) = false := h1
        have hq : foeIs (gf fs k) x y = false := by simp [foeIs, h1]
        have HQ : Hid (foeIs (gf fs k) x y = false) := hq
        clear hq
        go_wp2
        go_quiet (fail)
        go_wp2
        go_roundw
        case rel => exact ⟨k + 1, by omega, by go_num, allTo_succ hall (by rw [HQ.out]; rfl), below_drewN hbel _⟩
        case measure => simp [intOf]; omega
      | true =>
        have h1' : (x.toList == (gf fs k).a.toList) = true := h1
        cases h2 : eqS y (gf fs k).b with
        | false =>
          have h2' : (y.toList == (gf fs k).b.toList) = false := h2
          have hq : foeIs (gf fs k) x y = false := by simp [foeIs, h2]
          have HQ : Hid (foeIs (gf fs k) x y = false) := hq
          clear hq
          go_wp2
          go_quiet (fail)
          go_wp2
          go_roundw
          case rel => exact ⟨k + 1, by omega, by go_num, allTo_succ hall (by rw [HQ.out]; rfl), below_drewN hbel _⟩
          case measure => simp [intOf]; omega
        | true =>
          have h2' : (y.toList == (gf fs k).b.toList) = true := h2
          have hq : foeIs (gf fs k) x y = true := by simp [foeIs, h1, h2]
          have HQ : Hid (foeIs (gf fs k) x y = true) := hq
          clear hq
          go_wp2
          go_quiet (fail)
          go_wp2
          go_ret
          exact ⟨⟨k, rfl, by rw [show hasF fs x y = true from anyTo_true k hlt HQ.out]; simp⟩, below_over (below_drewN hbel _)⟩
    · go_wp2
      go_ret
      have : k = fs.length := by omega
      subst this
      exact ⟨⟨-1, rfl, by rw [show hasF fs x y = false from anyTo_none hall]; rfl⟩, hbw⟩


set_option maxHeartbeats 1000000 in
theorem containsF_any (a : Option Addr) (cap : Nat) (fs : List Foe) (x y : ByteArray) (w : World) (hm : FoesAt w a fs) (hl : fs.length ≤ maxLen) :
    Calls Tryz.prog 157 #[.slice a fs.length cap, .agg #[.string x, .string y]] w fun e w' => e = .returned (.bool (hasF fs x y)) ∧ Below w.heap.size w w' := by
  have b0 : Below w.heap.size w (w.alloc (.cells #[.string x, .string y] 70)) := (Below.refl _ _).alloc (Nat.le_refl _) _
  go_enter Tryz.func157, Tryz.ntmps157
  go_wp2_with fail
  refine (indexF_any a cap fs x y _ (hm.later b0) hl).mono ?_
  rintro e w1 ⟨⟨r, rfl, hr⟩, hb⟩
  go_wp2
  go_ret
  exact ⟨ret_bool (by first | exact hr | rfl), b0.trans (hb.mono b0.size)⟩

set_option maxHeartbeats 1000000 in
theorem areFoes_any (a : Option Addr) (cap : Nat) (fs : List Foe) (x y : ByteArray) (w : World) (hm : FoesAt w a fs) (hl : fs.length ≤ maxLen) :
    Calls Tryz.prog 135 #[.slice a fs.length cap, .string x, .string y] w fun e w' => e = .returned (.bool (foesB fs x y)) ∧ Below w.heap.size w w' := by
  rw [← foes_hit]
  go_enter Tryz.func135, Tryz.ntmps135
  go_wp2_with fail
  refine (containsF_any a cap fs x y _ hm hl).mono ?_
  rintro e w1 ⟨rfl, hb⟩
  cases h1 : hasF fs x y with
  | true =>
    go_wp2
    go_ret
    exact ⟨ret_bool (by rw [h1]; rfl), hb⟩
  | false =>
  go_wp2_with fail
  refine (containsF_any a cap fs y x _ (hm.later hb) hl).mono ?_
  rintro e w2 ⟨rfl, hb2⟩
  go_wp2
  go_ret
  exact ⟨ret_bool (by simp [h1]), hb.trans (hb2.mono hb.size)⟩

set_option maxHeartbeats 1000000 in
theorem mayOk1_any (bb : Nat) (a : Option Addr) (cap : Nat) (fs : List Foe) (x y : ByteArray) (w : World) (hc : w.cell? ⟨bb, 0, none⟩ = some (.slice a fs.length cap)) (hm : FoesAt w a fs) (hl : fs.length ≤ maxLen) :
    Calls Tryz.prog 134 #[.string x, .string y, .pointer (some ⟨bb, 0, none⟩)] w fun e w' => e = .returned (.bool (!foesB fs x y)) ∧ Below w.heap.size w w' := by
  go_enter Tryz.func134, Tryz.ntmps134
  go_wp2_with fail
  refine (areFoes_any a cap fs x y _ hm hl).mono ?_
  rintro e w1 ⟨rfl, hb⟩
  go_wp2
  go_ret
  exact ⟨ret_bool rfl, hb⟩

end Go.Proofs.YtfmhkicncgccjaaGreat
