/- Joined: BkS1. -/
import Derived.Test.YtfmhkicncgccjaaGreatFm14
/- What the specification's small functions on books answer. -/
namespace Go.Proofs.YtfmhkicncgccjaaGreat
open Go.RowKit Go.Sort
set_option linter.unusedSimpArgs false
set_option linter.unusedVariables false

def foeHit (f : Foe) (x y : ByteArray) : Bool := eqS f.a x && eqS f.b y || eqS f.a y && eqS f.b x
/-- Two stuffs are foes. -/
def foesB (fs : List Foe) (x y : ByteArray) : Bool := anyTo fs.length (fun i => foeHit (gf fs i) x y)
/-- A stuff is a foe of one of some. -/
def clashB (fs : List Foe) (s : ByteArray) (may : List ByteArray) : Bool := anyTo may.length (fun i => foesB fs s (gs may i))
/-- All of a list are in another one. -/
def allB (xs ys : List ByteArray) : Bool := allTo xs.length (fun i => hasB ys (gs xs i))
/-- The place of a spot of this name, as an integer; -1 if there is none. -/
def spotFrom (ps : List Spot) (s : ByteArray) : Nat → Nat → Int
 | _, 0 => -1
 | k, n + 1 => if eqS (gp ps k).name s then (k : Int) else spotFrom ps s (k + 1) n
def spotI (ps : List Spot) (s : ByteArray) : Int := spotFrom ps s 0 ps.length

theorem spotFrom_all {ps : List Spot} {s : ByteArray} : ∀ (n k : Nat), (∀ i, k ≤ i → i < k + n → eqS (gp ps i).name s = false) → spotFrom ps s k n = -1
 | 0, _, _ => rfl
 | n + 1, k, h => by
  unfold spotFrom
  rw [h k (Nat.le_refl _) (by omega)]
  exact spotFrom_all n (k + 1) (fun i h1 h2 => h i (by omega) (by omega))
theorem spotFrom_hit {ps : List Spot} {s : ByteArray} {j : Nat} : ∀ (n k : Nat), k ≤ j → j < k + n → (∀ i, k ≤ i → i < j → eqS (gp ps i).name s = false) → eqS (gp ps j).name s = true → spotFrom ps s k n = j
 | 0, k, h1, h2, _, _ => by omega
 | n + 1, k, h1, h2, h, hj => by
  unfold spotFrom
  by_cases e : k = j
  · subst e; rw [hj]; rfl
  · rw [h k (Nat.le_refl _) (by omega)]
    exact spotFrom_hit n (k + 1) (by omega) (by omega) (fun i a b => h i (by omega) b) hj
theorem spotI_hit {ps : List Spot} {s : ByteArray} {j : Nat} (hj : j < ps.length) (h : allTo j (fun i => !eqS (gp ps i).name s) = true) (he : eqS (gp ps j).name s = true) : spotI ps s = j :=
 spotFrom_hit ps.length 0 (Nat.zero_le _) (by omega) (fun i _ hi => by simpa using allTo_iff.1 h i hi) he
theorem spotI_none {ps : List Spot} {s : ByteArray} (h : allTo ps.length (fun i => !eqS (gp ps i).name s) = true) : spotI ps s = -1 :=
 spotFrom_all ps.length 0 (fun i _ hi => by simpa using allTo_iff.1 h i (by omega))
theorem spotI_cases (ps : List Spot) (s : ByteArray) : (spotI ps s = -1 ∧ allTo ps.length (fun i => !eqS (gp ps i).name s) = true) ∨ ∃ j, j < ps.length ∧ spotI ps s = (j : Int) ∧ eqS (gp ps j).name s = true ∧ allTo j (fun i => !eqS (gp ps i).name s) = true := by
 have : ∀ n, n ≤ ps.length → allTo n (fun i => !eqS (gp ps i).name s) = true ∨ ∃ j, j < n ∧ eqS (gp ps j).name s = true ∧ allTo j (fun i => !eqS (gp ps i).name s) = true := by
  intro n
  induction n with
  | zero => intro _; exact Or.inl rfl
  | succ n ih =>
   intro hn
   rcases ih (by omega) with h | ⟨j, h1, h2, h3⟩
   · cases e : eqS (gp ps n).name s with
     | true => exact Or.inr ⟨n, by omega, e, h⟩
     | false => exact Or.inl (allTo_succ h (by simp [e]))
   · exact Or.inr ⟨j, by omega, h2, h3⟩
 rcases this ps.length (Nat.le_refl _) with h | ⟨j, h1, h2, h3⟩
 · exact Or.inl ⟨spotI_none h, h⟩
 · exact Or.inr ⟨j, h1, spotI_hit h1 h3 h2, h2, h3⟩

set_option maxHeartbeats 1000000 in
theorem l2Foes_any (x : Book) (af ap av aq : Option Addr) (cf cp cv cq : Nat) (s t : ByteArray) (w : World) (hm : FoesAt w af x.foes) (hl : x.foes.length ≤ maxLen) :
 Calls Tryz.prog 126 #[bookV x af ap av aq cf cp cv cq, .string s, .string t] w fun e w' => e = .returned (.bool (foesB x.foes s t)) ∧ Below w.heap.size w w' := by
 unfold maxLen at hl
 unfold bookV
 go_enter Tryz.func126, Tryz.ntmps126
 go_wp2
 go_loop [7] (fun i => ∃ (k : Nat), k ≤ x.foes.length ∧ i = .int .i64 k ∧ allTo k (fun i => !foeHit (gf x.foes i) s t) = true) (fun i => x.foes.length - (intOf i).toNat)
 case atStart => exact ⟨0, Nat.zero_le _, rfl, rfl⟩
 case round =>
  obtain ⟨k, hk, rfl, hall⟩ := hrel
  by_cases hlt : k < x.foes.length
  · obtain ⟨b, o, ha, hb, hc0, hc1⟩ := hm.at hlt
    subst ha
    have hne : b ≠ w.heap.size := by omega
    cases hq : foeHit (gf x.foes k) s t with
    | true =>
     have hq' := hq
     unfold foeHit eqS at hq'
     have HQ : Hid (((gf x.foes k).a.toList == s.toList && (gf x.foes k).b.toList == t.toList || (gf x.foes k).a.toList == t.toList && (gf x.foes k).b.toList == s.toList) = true) := hq'
     clear hq'
     go_wp2
     all_goals first
      | (go_ret; exact ⟨ret_bool (anyTo_true k hlt hq).symm, (Below.refl _ _).alloc (Nat.le_refl _) _⟩)
      | (exfalso; have := HQ.out; simp_all)
    | false =>
     have hq' := hq
     unfold foeHit eqS at hq'
     have HQ : Hid (((gf x.foes k).a.toList == s.toList && (gf x.foes k).b.toList == t.toList || (gf x.foes k).a.toList == t.toList && (gf x.foes k).b.toList == s.toList) = false) := hq'
     clear hq'
     go_wp2
     all_goals first
      | (go_round
         case rel => exact ⟨k + 1, by omega, by go_num, allTo_succ hall (by simp [hq])⟩
         case measure => simp [intOf]; omega)
      | (exfalso; have := HQ.out; simp_all)
  · go_wp2
    go_ret
    have : k = x.foes.length := by omega
    subst this
    exact ⟨ret_bool (anyTo_none hall).symm, (Below.refl _ _).alloc (Nat.le_refl _) _⟩

set_option maxHeartbeats 1000000 in
theorem l2Spot_any (x : Book) (af ap av aq : Option Addr) (cf cp cv cq : Nat) (s : ByteArray) (w : World) (hm : SpotsAt w ap x.spots) (hl : x.spots.length ≤ maxLen) :
 Calls Tryz.prog 130 #[bookV x af ap av aq cf cp cv cq, .string s] w fun e w' => e = .returned (.int .i64 (spotI x.spots s)) ∧ Below w.heap.size w w' := by
 unfold maxLen at hl
 unfold bookV
 go_enter Tryz.func130, Tryz.ntmps130
 go_wp2
 go_loop [5] (fun i => ∃ (k : Nat), k ≤ x.spots.length ∧ i = .int .i64 k ∧ allTo k (fun i => !eqS (gp x.spots i).name s) = true) (fun i => x.spots.length - (intOf i).toNat)
 case atStart => exact ⟨0, Nat.zero_le _, rfl, rfl⟩
 case round =>
  obtain ⟨k, hk, rfl, hall⟩ := hrel
  by_cases hlt : k < x.spots.length
  · obtain ⟨b, o, m, c, ha, hb, hc0, hc1, hc2, hc3, hc4, -⟩ := hm.at hlt
    subst ha
    have hne : b ≠ w.heap.size := by omega
    clear hc1 hc2 hc3 hc4
    cases hq : eqS (gp x.spots k).name s with
    | true =>
     have hq' : ((gp x.spots k).name.toList == s.toList) = true := hq
     go_wp2
     go_ret
     exact ⟨congrArg (fun z => Ending.returned (.int .i64 z)) (spotI_hit hlt hall hq).symm, (Below.refl _ _).alloc (Nat.le_refl _) _⟩
    | false =>
     have hq' : ((gp x.spots k).name.toList == s.toList) = false := hq
     go_wp2
     go_round
     case rel => exact ⟨k + 1, by omega, by go_num, allTo_succ hall (by simp [hq])⟩
     case measure => simp [intOf]; omega
  · go_wp2
    go_ret
    have : k = x.spots.length := by omega
    subst this
    exact ⟨congrArg (fun z => Ending.returned (.int .i64 z)) (spotI_none hall).symm, (Below.refl _ _).alloc (Nat.le_refl _) _⟩

set_option maxHeartbeats 400000 in
theorem l1All_any (a b : Option Addr) (ca cb : Nat) (xs ys : List ByteArray) (w : World) (hx : StrsAt w a xs) (hy : StrsAt w b ys) (lx : xs.length ≤ maxLen) (ly : ys.length ≤ maxLen) :
 Calls Tryz.prog 155 #[.slice a xs.length ca, .slice b ys.length cb] w fun e w' => e = .returned (.bool (allB xs ys)) ∧ w = w' := by
 have lx' := lx
 unfold maxLen at lx'
 go_enter Tryz.func155, Tryz.ntmps155
 go_wp2
 go_loop [5] (fun i => ∃ (k : Nat), k ≤ xs.length ∧ i = .int .i64 k ∧ allTo k (fun i => hasB ys (gs xs i)) = true) (fun i => xs.length - (intOf i).toNat)
 case atStart => exact ⟨0, Nat.zero_le _, rfl, rfl⟩
 case round =>
  obtain ⟨k, hk, rfl, hall⟩ := hrel
  by_cases hlt : k < xs.length
  · obtain ⟨b1, o1, ha, hb, hc⟩ := hx.at hlt
    subst ha
    cases hq : hasB ys (gs xs k) with
    | true =>
     go_wp2_with (go_at_call 29; refine (l1Has_any b cb ys (gs xs k) _ hy ly).mono ?_; rintro e w1 ⟨rfl, rfl⟩; rw [hq])
     go_round
     case rel => exact ⟨k + 1, by omega, by go_num, allTo_succ hall hq⟩
     case measure => simp [intOf]; omega
    | false =>
     go_wp2_with (go_at_call 29; refine (l1Has_any b cb ys (gs xs k) _ hy ly).mono ?_; rintro e w1 ⟨rfl, rfl⟩; rw [hq])
     go_ret
     exact ⟨ret_bool (allTo_false k hlt hq).symm, rfl⟩
  · go_wp2
    go_ret
    have : k = xs.length := by omega
    subst this
    exact ⟨ret_bool hall.symm, rfl⟩

/-- Two wants cross. -/
def crossB (x y : Want) : Bool := shareB x.opens y.opens || shareB x.opens y.shuts || shareB x.shuts y.opens

set_option maxHeartbeats 1000000 in
theorem l2Crosses_any (x y : Want) (a2 a3 a4 a5 : Option Addr) (c2 c3 c4 c5 : Nat) (e2 e3 e4 e5 : Option Addr) (d2 d3 d4 d5 : Nat) (w : World) (hx : WantIn w x a2 a3 a4 a5) (hy : WantIn w y e2 e3 e4 e5) (fx : WantFit x) (fy : WantFit y) :
 Calls Tryz.prog 88 #[wantW x a2 a3 a4 a5 c2 c3 c4 c5, wantW y e2 e3 e4 e5 d2 d3 d4 d5] w fun e w' => e = .returned (.bool (crossB x y)) ∧ Below w.heap.size w w' := by
 unfold wantW
 have b0 : Below w.heap.size w ((w.alloc (.cells #[.int .i64 x.number, .int .i64 x.kind, .slice a2 x.stuffs.length c2, .slice a3 x.uses.length c3, .slice a4 x.opens.length c4, .slice a5 x.shuts.length c5] 38)).alloc (.cells #[.int .i64 y.number, .int .i64 y.kind, .slice e2 y.stuffs.length d2, .slice e3 y.uses.length d3, .slice e4 y.opens.length d4, .slice e5 y.shuts.length d5] 38)) :=
  ((Below.refl _ _).alloc (Nat.le_refl _) _).alloc (by simp) _
 have hx0 := hx.later b0
 have hy0 := hy.later b0
 cases h1 : shareB x.opens y.opens with
 | true =>
  go_enter Tryz.func88, Tryz.ntmps88
  go_wp2_with fail
  refine (l1Share_any a4 e4 c4 d4 x.opens y.opens _ hx0.opens hy0.opens fx.opens.1 fy.opens.1).mono ?_
  rintro e w1 ⟨rfl, rfl⟩
  rw [h1]
  go_wp2
  go_ret
  exact ⟨ret_bool (by simp [crossB, h1]), b0⟩
 | false =>
  cases h2 : shareB x.opens y.shuts with
  | true =>
   go_enter Tryz.func88, Tryz.ntmps88
   go_wp2_with fail
   refine (l1Share_any a4 e4 c4 d4 x.opens y.opens _ hx0.opens hy0.opens fx.opens.1 fy.opens.1).mono ?_
   rintro e w1 ⟨rfl, rfl⟩
   rw [h1]
   go_wp2_with fail
   refine (l1Share_any a4 e5 c4 d5 x.opens y.shuts _ hx0.opens hy0.shuts fx.opens.1 fy.shuts.1).mono ?_
   rintro e w1 ⟨rfl, rfl⟩
   rw [h2]
   go_wp2
   go_ret
   exact ⟨ret_bool (by simp [crossB, h2]), b0⟩
  | false =>
   go_enter Tryz.func88, Tryz.ntmps88
   go_wp2_with fail
   refine (l1Share_any a4 e4 c4 d4 x.opens y.opens _ hx0.opens hy0.opens fx.opens.1 fy.opens.1).mono ?_
   rintro e w1 ⟨rfl, rfl⟩
   rw [h1]
   go_wp2_with fail
   refine (l1Share_any a4 e5 c4 d5 x.opens y.shuts _ hx0.opens hy0.shuts fx.opens.1 fy.shuts.1).mono ?_
   rintro e w1 ⟨rfl, rfl⟩
   rw [h2]
   go_wp2_with fail
   refine (l1Share_any a5 e4 c5 d4 x.shuts y.opens _ hx0.shuts hy0.opens fx.shuts.1 fy.opens.1).mono ?_
   rintro e w1 ⟨rfl, rfl⟩
   go_wp2
   go_ret
   exact ⟨ret_bool (by simp [crossB, h1, h2]), b0⟩

end Go.Proofs.YtfmhkicncgccjaaGreat

