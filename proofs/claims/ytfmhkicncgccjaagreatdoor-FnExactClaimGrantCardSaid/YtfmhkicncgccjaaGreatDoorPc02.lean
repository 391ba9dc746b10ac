/- Joined: Names, Asc, NamesB, UsesB. -/
import Derived.Test.YtfmhkicncgccjaaGreatDoorPc01
/- What the functions answer that look at lists of names. -/
namespace Go.Proofs.YtfmhkicncgccjaaGreatDoor
open Go.RowKit Go.Sort

/-- A name at its place: a name, and behind the one ahead of it. -/
def nameAtB (ss : List ByteArray) (k : Nat) : Bool := nameB (gs ss k) && (k == 0 || ltS (gs ss (k - 1)) (gs ss k))
def namesB (ss : List ByteArray) (most : Int) : Bool := decide ((ss.length : Int) ≤ most) && allTo ss.length (nameAtB ss)

theorem namesB_many {ss : List ByteArray} {most : Int} (h : most < ss.length) : namesB ss most = false := by
  unfold namesB; rw [decide_eq_false (by omega)]; rfl
theorem namesB_bad {ss : List ByteArray} {most : Int} (k : Nat) (hk : k < ss.length) (h : nameAtB ss k = false) : namesB ss most = false := by
  unfold namesB; rw [allTo_false k hk h, Bool.and_false]
theorem namesB_good {ss : List ByteArray} {most : Int} (h : (ss.length : Int) ≤ most) (ha : allTo ss.length (nameAtB ss) = true) : namesB ss most = true := by
  unfold namesB; rw [ha, decide_eq_true h]; rfl

set_option maxHeartbeats 400000 in
theorem l1NamesOk_any (a : Option Addr) (cap : Nat) (ss : List ByteArray) (most : Int) (w : World) (hm : StrsAt w a ss) (hf : Fit ss) :
    Calls Tryz.prog 64 #[.slice a ss.length cap, .int .i64 most] w fun e w' => e = .returned (.bool (namesB ss most)) ∧ Below w.heap.size w w' := by
  obtain ⟨hl, hs⟩ := hf
  unfold maxLen at hl
  by_cases hmany : most < (ss.length : Int)
  · go_enter Tryz.func64, Tryz.ntmps64
    go_wp2
    go_ret
    exact ⟨ret_bool (namesB_many hmany).symm, Below.refl _ _⟩
  · go_enter Tryz.func64, Tryz.ntmps64
    go_wp2
    go_loopw [5] (fun i wr => ∃ (k : Nat), k ≤ ss.length ∧ i = .int .i64 k ∧ allTo k (nameAtB ss) = true ∧ Below w.heap.size w wr) (fun i _ => ss.length - (intOf i).toNat)
    case atStart => exact ⟨0, Nat.zero_le _, rfl, rfl, Below.refl _ _⟩
    case round wr =>
      obtain ⟨k, hk, rfl, hall, hbel⟩ := hrel
      by_cases hlt : k < ss.length
      · obtain ⟨b, o, ha, hb, hc⟩ := (hm.later hbel).at hlt
        have hsz : (gs ss k).size ≤ maxLen := hs _ (gs_mem hlt)
        have hcall := fun n => quietSame (w := wr) (n := n) (l1NameOk_any (gs ss k) _ hsz)
        clear hs
        cases hq : nameB (gs ss k) with
        | false =>
          rw [hq] at hcall
          subst ha
          go_wp2
          go_quiet (exact hcall _)
          go_wp2
          go_ret
          exact ⟨ret_bool (namesB_bad k hlt (by unfold nameAtB; rw [hq]; rfl)).symm, below_drewN hbel _⟩
        | true =>
          rw [hq] at hcall
          by_cases hk0 : k = 0
          · subst hk0
            subst ha
            simp only [Nat.add_zero] at hc
            go_wp2
            go_quiet (exact hcall _)
            go_wp2
            go_roundw
            case rel => exact ⟨1, by omega, rfl, by simp [allTo, nameAtB, hq], below_drewN hbel _⟩
            case measure => simp [intOf]; omega
          · obtain ⟨j, rfl⟩ : ∃ j, k = j + 1 := ⟨k - 1, by omega⟩
            obtain ⟨b', o', ha', hb', hc'⟩ := (hm.later hbel).at (k := j) (by omega)
            subst ha
            simp only [Option.some.injEq, Addr.mk.injEq, and_true] at ha'
            obtain ⟨rfl, rfl⟩ := ha'
            have hc'' : wr.cell? ⟨b, o + (j + 1), none⟩ = some (.string (gs ss (j + 1))) := hc
            have hat : nameAtB ss (j + 1) = ltS (gs ss j) (gs ss (j + 1)) := by simp [nameAtB, hq]
            cases hq2 : ltS (gs ss j) (gs ss (j + 1)) with
            | true =>
              have hq3 : Op.bytesLess (gs ss j).toList (gs ss (j + 1)).toList = true := hq2
              rw [hq2] at hat
              go_wp2
              go_quiet (exact hcall _)
              go_wp2
              go_roundw
              case rel => exact ⟨j + 1 + 1, by omega, by go_num, allTo_succ hall hat, below_drewN hbel _⟩
              case measure => simp [intOf]; omega
            | false =>
              have hq3 : Op.bytesLess (gs ss j).toList (gs ss (j + 1)).toList = false := hq2
              rw [hq2] at hat
              go_wp2
              go_quiet (exact hcall _)
              go_wp2
              go_ret
              exact ⟨ret_bool (namesB_bad (j + 1) hlt hat).symm, below_drewN hbel _⟩
      · go_wp2
        go_ret
        have : k = ss.length := by omega
        subst this
        exact ⟨ret_bool (namesB_good (by omega) hall).symm, hbel⟩

end Go.Proofs.YtfmhkicncgccjaaGreatDoor

/- What the functions answer that hold neighbours against each other. -/
namespace Go.Proofs.YtfmhkicncgccjaaGreatDoor
open Go.RowKit Go.Sort

def ascB (ss : List ByteArray) : Bool := allTo ss.length (fun k => k == 0 || ltS (gs ss (k - 1)) (gs ss k))
def ascUB (us : List Use) : Bool := allTo us.length (fun k => k == 0 || ltS (gu us (k - 1)).name (gu us k).name)

set_option maxHeartbeats 400000 in
theorem ascending_any (a : Option Addr) (cap : Nat) (ss : List ByteArray) (w : World) (hm : StrsAt w a ss) (hl : ss.length ≤ maxLen) :
    Calls Tryz.prog 177 #[.slice a ss.length cap, .func (.func 178) #[] #[]] w fun e w' => e = .returned (.bool (ascB ss)) ∧ Below w.heap.size w w' := by
  unfold maxLen at hl
  go_enter Tryz.func177, Tryz.ntmps177
  go_wp2
  go_loopw [5] (fun i wr => ∃ (k : Nat), (k ≤ ss.length ∨ k = 1) ∧ 1 ≤ k ∧ i = .int .i64 k ∧ allTo k (fun k => k == 0 || ltS (gs ss (k - 1)) (gs ss k)) = true ∧ Below w.heap.size w wr) (fun i _ => ss.length - (intOf i).toNat)
  case atStart => exact ⟨1, Or.inr rfl, Nat.le_refl _, rfl, rfl, Below.refl _ _⟩
  case round wr =>
    obtain ⟨k, hk, hk1, rfl, hall, hbel⟩ := hrel
    by_cases hlt : k < ss.length
    · obtain ⟨j, rfl⟩ : ∃ j, k = j + 1 := ⟨k - 1, by omega⟩
      obtain ⟨b, o, ha, hb, hc⟩ := (hm.later hbel).at hlt
      obtain ⟨b', o', ha', hb', hc'⟩ := (hm.later hbel).at (k := j) (by omega)
      subst ha
      simp only [Option.some.injEq, Addr.mk.injEq, and_true] at ha'
      obtain ⟨rfl, rfl⟩ := ha'
      have hcall := fun n => quietSame (w := wr) (n := n) (namesOk1_any (gs ss j) (gs ss (j + 1)) _)
      cases hq : ltS (gs ss j) (gs ss (j + 1)) with
      | true =>
        rw [hq] at hcall
        go_wp2
        go_quiet (exact hcall _)
        go_wp2
        go_roundw
        case rel => exact ⟨j + 1 + 1, by omega, by omega, by go_num, allTo_succ hall (by simp [hq]), below_drewN hbel _⟩
        case measure => simp [intOf]; omega
      | false =>
        rw [hq] at hcall
        go_wp2
        go_quiet (exact hcall _)
        go_wp2
        go_ret
        exact ⟨ret_bool (allTo_false (j + 1) hlt (by simp [hq])).symm, below_drewN hbel _⟩
    · go_wp2
      go_ret
      refine ⟨ret_bool ?_, hbel⟩
      refine (allTo_iff.2 fun i hi => ?_).symm
      exact allTo_iff.1 hall i (by omega)

set_option maxHeartbeats 400000 in
theorem ascendingU_any (a : Option Addr) (cap : Nat) (us : List Use) (w : World) (hm : UsesAt w a us) (hl : us.length ≤ maxLen) :
    Calls Tryz.prog 180 #[.slice a us.length cap, .func (.func 181) #[] #[]] w fun e w' => e = .returned (.bool (ascUB us)) ∧ Below w.heap.size w w' := by
  unfold maxLen at hl
  go_enter Tryz.func180, Tryz.ntmps180
  go_wp2
  go_loopw [5] (fun i wr => ∃ (k : Nat), (k ≤ us.length ∨ k = 1) ∧ 1 ≤ k ∧ i = .int .i64 k ∧ allTo k (fun k => k == 0 || ltS (gu us (k - 1)).name (gu us k).name) = true ∧ Below w.heap.size w wr) (fun i _ => us.length - (intOf i).toNat)
  case atStart => exact ⟨1, Or.inr rfl, Nat.le_refl _, rfl, rfl, Below.refl _ _⟩
  case round wr =>
    obtain ⟨k, hk, hk1, rfl, hall, hbel⟩ := hrel
    by_cases hlt : k < us.length
    · obtain ⟨j, rfl⟩ : ∃ j, k = j + 1 := ⟨k - 1, by omega⟩
      obtain ⟨b, o, ha, hb, hc10, hc11, hc12⟩ := (hm.later hbel).at hlt
      obtain ⟨b', o', ha', hb', hc20, hc21, hc22⟩ := (hm.later hbel).at (k := j) (by omega)
      subst ha
      simp only [Option.some.injEq, Addr.mk.injEq, and_true] at ha'
      obtain ⟨rfl, rfl⟩ := ha'
      have r10 := cell_regrown hc10
      have r11 := cell_regrown hc11
      have r12 := cell_regrown hc12
      have r20 := cell_regrown hc20
      have r21 := cell_regrown hc21
      have r22 := cell_regrown hc22
      have hcall := fun d os => Calls.regrown_of (w := wr) (usesOk1_any (gu us j) (gu us (j + 1)) (grow (redrawn wr d) os))
      unfold useV at hcall
      have hwrap : IntKind.i64.wrap (j : Int) = j := by rw [IntKind.wrap_i64]; omega
      have hj1 : (j : Int) < us.length := by omega
      have hj2 : (j : Int) + 1 < us.length := by omega
      have hj3 : (0 : Int) ≤ (j : Int) + 1 := by omega
      have hj4 : ((j : Int) + 1).toNat = j + 1 := by omega
      go_wp2
      refine wp_region_quiet_below (by kernel_rfl) (by kernel_rfl) ?_
      repeat (quiet_step (exact hcall _ _))
      refine wpQuiet_nil ?_
      intro w1 hw'
      obtain ⟨⟨dq, osq⟩, hw''⟩ := hw'
      have hbel1 : Below w.heap.size w w1 := hbel.trans ((hw'' ▸ below_regrown wr dq osq).mono hbel.size)
      clear hw'' hcall r10 r11 r12 r20 r21 r22
      cases hq : ltS (gu us j).name (gu us (j + 1)).name with
      | true =>
        go_wp2
        go_roundw
        case rel => exact ⟨j + 1 + 1, by omega, by omega, by go_num, allTo_succ hall (by simp [hq]), hbel1⟩
        case measure => simp [intOf]; omega
      | false =>
        go_wp2
        go_ret
        exact ⟨ret_bool (allTo_false (j + 1) hlt (by simp [hq])).symm, hbel1⟩
    · go_wp2
      go_ret
      refine ⟨ret_bool ?_, hbel⟩
      refine (allTo_iff.2 fun i hi => ?_).symm
      exact allTo_iff.1 hall i (by omega)

end Go.Proofs.YtfmhkicncgccjaaGreatDoor

/- What namesOk, shareAny, l1Share answer. -/
namespace Go.Proofs.YtfmhkicncgccjaaGreatDoor
open Go.RowKit Go.Sort

theorem names_both (ss : List ByteArray) : (allTo ss.length (fun i => nameB (gs ss i)) && ascB ss) = allTo ss.length (nameAtB ss) := by
  rw [Bool.eq_iff_iff, Bool.and_eq_true]
  unfold ascB
  rw [allTo_iff, allTo_iff, allTo_iff]
  unfold nameAtB
  constructor
  · rintro ⟨h1, h2⟩ i hi
    rw [h1 i hi, h2 i hi]; rfl
  · intro h
    exact ⟨fun i hi => (Bool.and_eq_true _ _ ▸ h i hi).1, fun i hi => (Bool.and_eq_true _ _ ▸ h i hi).2⟩

set_option maxHeartbeats 400000 in
theorem namesOk_any (a : Option Addr) (cap : Nat) (ss : List ByteArray) (most : Int) (w : World) (hm : StrsAt w a ss) (hf : Fit ss) :
    Calls Tryz.prog 150 #[.slice a ss.length cap, .int .i64 most] w fun e w' => e = .returned (.bool (namesB ss most)) ∧ Below w.heap.size w w' := by
  obtain ⟨hl, hs⟩ := hf
  have hl' := hl
  unfold maxLen at hl
  by_cases hmany : most < (ss.length : Int)
  · go_enter Tryz.func150, Tryz.ntmps150
    go_wp2
    go_ret
    exact ⟨ret_bool (namesB_many hmany).symm, Below.refl _ _⟩
  · go_enter Tryz.func150, Tryz.ntmps150
    go_wp2
    go_loopw [6, 13] (fun _ i wr => ∃ (k : Nat), k ≤ ss.length ∧ i = .int .i64 k ∧ allTo k (fun i => nameB (gs ss i)) = true ∧ Below w.heap.size w wr) (fun _ i _ => ss.length - (intOf i).toNat)
    case atStart => exact ⟨0, Nat.zero_le _, rfl, rfl, Below.refl _ _⟩
    case round wr =>
      obtain ⟨k, hk, rfl, hall, hbel⟩ := hrel
      by_cases hlt : k < ss.length
      · obtain ⟨b, o, ha, hb, hc⟩ := (hm.later hbel).at hlt
        have hsz : (gs ss k).size ≤ maxLen := hs _ (gs_mem hlt)
        clear hs
        subst ha
        cases hq : nameB (gs ss k) with
        | false =>
          go_wp2_with (go_at_call 167; refine (nameOk_any (gs ss k) _ hsz).mono ?_; rintro e w1 ⟨rfl, hb1⟩; rw [hq])
          go_ret
          exact ⟨ret_bool (namesB_bad k hlt (by unfold nameAtB; rw [hq]; rfl)).symm, hbel.trans (hb1.mono hbel.size)⟩
        | true =>
          go_wp2_with (go_at_call 167; refine (nameOk_any (gs ss k) _ hsz).mono ?_; rintro e w1 ⟨rfl, hb1⟩; rw [hq])
          go_roundw
          case rel => exact ⟨k + 1, by omega, by go_num, allTo_succ hall hq, hbel.trans (hb1.mono hbel.size)⟩
          case measure => simp [intOf]; omega
      · have : k = ss.length := by omega
        subst this
        have hm' := hm.later hbel
        go_wp2_with (go_at_call 177; refine (ascending_any a cap ss _ hm' hl').mono ?_; rintro e w1 ⟨rfl, hb1⟩)
        go_ret
        refine ⟨ret_bool ?_, hbel.trans (hb1.mono hbel.size)⟩
        unfold namesB
        rw [← names_both, hall, decide_eq_true (by omega)]; rfl

set_option maxHeartbeats 400000 in
theorem shareAny_any (a b : Option Addr) (ca cb : Nat) (xs ys : List ByteArray) (w : World) (hx : StrsAt w a xs) (hy : StrsAt w b ys) (lx : xs.length ≤ maxLen) (ly : ys.length ≤ maxLen) :
    Calls Tryz.prog 152 #[.slice a xs.length ca, .slice b ys.length cb] w fun e w' => e = .returned (.bool (shareB xs ys)) ∧ w = w' := by
  have lx' := lx
  unfold maxLen at lx'
  go_enter Tryz.func152, Tryz.ntmps152
  go_wp2
  go_loop [6, 9] (fun _ i => ∃ (k : Nat), k ≤ xs.length ∧ i = .int .i64 k ∧ allTo k (fun i => !hasB ys (gs xs i)) = true) (fun _ i => xs.length - (intOf i).toNat)
  case atStart => exact ⟨0, Nat.zero_le _, rfl, rfl⟩
  case round =>
    obtain ⟨k, hk, rfl, hall⟩ := hrel
    by_cases hlt : k < xs.length
    · obtain ⟨b1, o1, ha, hb, hc⟩ := hx.at hlt
      subst ha
      cases hq : hasB ys (gs xs k) with
      | true =>
        go_wp2_with (go_at_call 182; refine (contains_any b cb ys (gs xs k) _ hy ly).mono ?_; rintro e w1 ⟨rfl, rfl⟩; rw [hq])
        go_ret
        exact ⟨ret_bool (anyTo_true k hlt hq).symm, rfl⟩
      | false =>
        go_wp2_with (go_at_call 182; refine (contains_any b cb ys (gs xs k) _ hy ly).mono ?_; rintro e w1 ⟨rfl, rfl⟩; rw [hq])
        go_round
        case rel => exact ⟨k + 1, by omega, by go_num, allTo_succ hall (by simp [hq])⟩
        case measure => simp [intOf]; omega
    · go_wp2
      go_ret
      have : k = xs.length := by omega
      subst this
      exact ⟨ret_bool (anyTo_none hall).symm, rfl⟩

set_option maxHeartbeats 400000 in
theorem l1Share_any (a b : Option Addr) (ca cb : Nat) (xs ys : List ByteArray) (w : World) (hx : StrsAt w a xs) (hy : StrsAt w b ys) (lx : xs.length ≤ maxLen) (ly : ys.length ≤ maxLen) :
    Calls Tryz.prog 28 #[.slice a xs.length ca, .slice b ys.length cb] w fun e w' => e = .returned (.bool (shareB xs ys)) ∧ w = w' := by
  have lx' := lx
  unfold maxLen at lx'
  go_enter Tryz.func28, Tryz.ntmps28
  go_wp2
  go_loop [5] (fun i => ∃ (k : Nat), k ≤ xs.length ∧ i = .int .i64 k ∧ allTo k (fun i => !hasB ys (gs xs i)) = true) (fun i => xs.length - (intOf i).toNat)
  case atStart => exact ⟨0, Nat.zero_le _, rfl, rfl⟩
  case round =>
    obtain ⟨k, hk, rfl, hall⟩ := hrel
    by_cases hlt : k < xs.length
    · obtain ⟨b1, o1, ha, hb, hc⟩ := hx.at hlt
      subst ha
      cases hq : hasB ys (gs xs k) with
      | true =>
        go_wp2_with (go_at_call 69; refine (l1Has_any b cb ys (gs xs k) _ hy ly).mono ?_; rintro e w1 ⟨rfl, rfl⟩; rw [hq])
        go_ret
        exact ⟨ret_bool (anyTo_true k hlt hq).symm, rfl⟩
      | false =>
        go_wp2_with (go_at_call 69; refine (l1Has_any b cb ys (gs xs k) _ hy ly).mono ?_; rintro e w1 ⟨rfl, rfl⟩; rw [hq])
        go_round
        case rel => exact ⟨k + 1, by omega, by go_num, allTo_succ hall (by simp [hq])⟩
        case measure => simp [intOf]; omega
    · go_wp2
      go_ret
      have : k = xs.length := by omega
      subst this
      exact ⟨ret_bool (anyTo_none hall).symm, rfl⟩

end Go.Proofs.YtfmhkicncgccjaaGreatDoor

/- What usesOk, kinded and listsOfKindOk answer. -/
namespace Go.Proofs.YtfmhkicncgccjaaGreatDoor
open Go.RowKit Go.Sort

def wantV (n k : Int) (v2 v3 v4 v5 : Value) : Value := .agg #[.int .i64 n, .int .i64 k, v2, v3, v4, v5]

/-- A want behind the type of its kind. -/
def kindV (k : Int) (c : Array Value) : Value :=
  if k == 1 then .iface 213 (.agg c) else if k == 2 then .iface 214 (.agg c) else if k == 3 then .iface 215 (.agg c) else .nilIface

set_option maxHeartbeats 400000 in
theorem kinded_any (n k : Int) (v2 v3 v4 v5 : Value) (w : World) (_h2 : v2.oneCell' = true) (_h3 : v3.oneCell' = true) (_h4 : v4.oneCell' = true) (_h5 : v5.oneCell' = true) :
    Calls Tryz.prog 147 #[wantV n k v2 v3 v4 v5] w fun e w' => e = .returned (kindV k #[.int .i64 n, .int .i64 k, v2, v3, v4, v5]) ∧ Below w.heap.size w w' := by
  unfold wantV kindV
  go_enter Tryz.func147, Tryz.ntmps147
  go_wp2
  all_goals go_ret
  all_goals exact ⟨rfl, (Below.refl _ _).alloc (Nat.le_refl _) _⟩

/-- A use at its place, as usesOk asks: rb says which roles there are. -/
def useAtB (rb : Int → Bool) (us : List Use) (k : Nat) : Bool := nameB (gu us k).name && rb (gu us k).role && amountB (gu us k)
def usesB (rb : Int → Bool) (us : List Use) : Bool := decide ((us.length : Int) ≤ 8) && allTo us.length (useAtB rb us) && ascUB us

theorem usesB_many {rb : Int → Bool} {us : List Use} (h : 8 < (us.length : Int)) : usesB rb us = false := by
  unfold usesB; rw [decide_eq_false (by omega)]; rfl
theorem usesB_bad {rb : Int → Bool} {us : List Use} (k : Nat) (hk : k < us.length) (h : useAtB rb us k = false) : usesB rb us = false := by
  unfold usesB; rw [allTo_false k hk h, Bool.and_false]; rfl

set_option maxHeartbeats 800000 in
theorem usesOk_with (T : TypeId) (g : FuncId) (rb : Int → Bool) (c : Array Value)
    (hmeth : ∀ w : World, (method 377 T (.agg c) "loop.example/maltclaim/impl.takesRole").run Tryz.prog w = .ok (g, .agg c) w)
    (hent : ∀ args (w : World), (callFunc g args).run Tryz.prog w = .ok (.enter g args) w)
    (htake : ∀ (role : Int) (w : World), Calls Tryz.prog g #[.agg c, .int .i64 role] w fun e w' => e = .returned (.bool (rb role)) ∧ Below w.heap.size w w')
    (a : Option Addr) (cap : Nat) (us : List Use) (w : World) (hm : UsesAt w a us) (hl : us.length ≤ maxLen) (hs : ∀ u ∈ us, u.name.size ≤ maxLen) :
    Calls Tryz.prog 151 #[.iface T (.agg c), .slice a us.length cap] w fun e w' => e = .returned (.bool (usesB rb us)) ∧ Below w.heap.size w w' := by
  have hl' := hl
  unfold maxLen at hl
  by_cases hmany : 8 < (us.length : Int)
  · go_enter Tryz.func151, Tryz.ntmps151
    go_wp2
    go_ret
    exact ⟨ret_bool (usesB_many hmany).symm, Below.refl _ _⟩
  · have HT := htake
    have HTT : Hid (∀ (role : Int) (w : World), Calls Tryz.prog g #[.agg c, .int .i64 role] w fun e w' => e = .returned (.bool (rb role)) ∧ Below w.heap.size w w') := HT
    clear HT htake
    go_enter Tryz.func151, Tryz.ntmps151
    go_wp2
    go_loopw [6, 12] (fun _ i wr => ∃ (k : Nat), k ≤ us.length ∧ i = .int .i64 k ∧ allTo k (useAtB rb us) = true ∧ Below w.heap.size w wr) (fun _ i _ => us.length - (intOf i).toNat)
    case atStart => exact ⟨0, Nat.zero_le _, rfl, rfl, Below.refl _ _⟩
    case round wr =>
      obtain ⟨k, hk, rfl, hall, hbel⟩ := hrel
      by_cases hlt : k < us.length
      · obtain ⟨b, o, ha, hb, hc0, hc1, hc2⟩ := (hm.later hbel).at hlt
        have hsz : (gu us k).name.size ≤ maxLen := hs _ (gu_mem hlt)
        clear hs
        subst ha
        cases hq : nameB (gu us k).name with
        | false =>
          go_wp2_with (go_at_call 167; refine (nameOk_any _ _ hsz).mono ?_; rintro e w1 ⟨rfl, hb1⟩; rw [hq])
          go_ret
          exact ⟨ret_bool (usesB_bad k hlt (by unfold useAtB; rw [hq]; rfl)).symm, hbel.trans ((below_over hb1).mono hbel.size)⟩
        | true =>
          go_wp2_with (go_at_call 167; refine (nameOk_any _ _ hsz).mono ?_; rintro e w1 ⟨rfl, hb1⟩; rw [hq]; obtain ⟨q0, q1, q2, hz⟩ := box3 hb1)
          have hb2 := hbel.trans ((below_over hb1).mono hbel.size)
          refine (HTT.out (gu us k).role _).mono ?_
          rintro e w2 ⟨rfl, hbb⟩
          have p0 := cell_later hbb q0
          have p1 := cell_later hbb q1
          have p2 := cell_later hbb q2
          have hb3 : Below w.heap.size w w2 := hb2.trans (hbb.mono hb2.size)
          clear hb1 hbb q0 q1 q2 hb2
          cases hq2 : rb (gu us k).role with
          | false =>
            go_wp2
            go_ret
            exact ⟨ret_bool (usesB_bad k hlt (by unfold useAtB; rw [hq, hq2]; rfl)).symm, hb3⟩
          | true =>
            go_wp2_with fail
            refine (amountOk_any (gu us k) _).mono ?_
            rintro e w3 ⟨rfl, hbb⟩
            have hb4 : Below w.heap.size w w3 := hb3.trans (hbb.mono hb3.size)
            clear hbb hb3
            cases hq3 : amountB (gu us k) with
            | false =>
              go_wp2
              go_ret
              exact ⟨ret_bool (usesB_bad k hlt (by unfold useAtB; rw [hq, hq2, hq3]; rfl)).symm, hb4⟩
            | true =>
              go_wp2
              go_roundw
              case rel => exact ⟨k + 1, by omega, by go_num, allTo_succ hall (by unfold useAtB; rw [hq, hq2, hq3]; rfl), hb4⟩
              case measure => simp [intOf]; omega
      · have : k = us.length := by omega
        subst this
        have hm' := hm.later hbel
        go_wp2_with (go_at_call 180; refine (ascendingU_any a cap us _ hm' hl').mono ?_; rintro e w1 ⟨rfl, hb1⟩)
        go_ret
        refine ⟨ret_bool ?_, hbel.trans (hb1.mono hbel.size)⟩
        unfold usesB
        rw [hall, decide_eq_true (by omega)]; rfl


theorem method_move (c : Array Value) (w : World) : (method 377 213 (.agg c) "loop.example/maltclaim/impl.takesRole").run Tryz.prog w = .ok (246, .agg c) w := by kernel_rfl
theorem method_clean (c : Array Value) (w : World) : (method 377 214 (.agg c) "loop.example/maltclaim/impl.takesRole").run Tryz.prog w = .ok (247, .agg c) w := by kernel_rfl
theorem method_permit (c : Array Value) (w : World) : (method 377 215 (.agg c) "loop.example/maltclaim/impl.takesRole").run Tryz.prog w = .ok (248, .agg c) w := by kernel_rfl
theorem enter_move (args : Array Value) (w : World) : (callFunc 246 args).run Tryz.prog w = .ok (.enter 246 args) w := by kernel_rfl
theorem enter_clean (args : Array Value) (w : World) : (callFunc 247 args).run Tryz.prog w = .ok (.enter 247 args) w := by kernel_rfl
theorem enter_permit (args : Array Value) (w : World) : (callFunc 248 args).run Tryz.prog w = .ok (.enter 248 args) w := by kernel_rfl

theorem usesOk_any (kind : Int) (hkind : kind = 1 ∨ kind = 2 ∨ kind = 3) (c : Array Value) (a : Option Addr) (cap : Nat) (us : List Use) (w : World) (hm : UsesAt w a us) (hl : us.length ≤ maxLen) (hs : ∀ u ∈ us, u.name.size ≤ maxLen) :
    Calls Tryz.prog 151 #[kindV kind c, .slice a us.length cap] w fun e w' => e = .returned (.bool (usesB (roleB kind) us)) ∧ Below w.heap.size w w' := by
  rcases hkind with rfl | rfl | rfl
  · exact usesOk_with 213 246 _ c (method_move c) enter_move (fun role w => takes_move c role w) a cap us w hm hl hs
  · exact usesOk_with 214 247 _ c (method_clean c) enter_clean (fun role w => takes_clean c role w) a cap us w hm hl hs
  · exact usesOk_with 215 248 _ c (method_permit c) enter_permit (fun role w => takes_permit c role w) a cap us w hm hl hs

/-- Which lists a kind has. -/
def listsB (k : Int) (n2 n4 : Nat) : Bool := if k == 1 then decide (0 < n2) else if k == 2 || k == 3 then decide (n2 = 0) && decide (n4 = 0) else false

theorem ta_move_move (v : Value) (w : World) : (Instr.typeAssert (.iface 213 v) 187 213 true).run Tryz.prog w = .ok (.tuple #[v, .bool true]) w := by kernel_rfl
theorem ta_move_clean (v : Value) (w : World) : (Instr.typeAssert (.iface 213 v) 187 214 true).run Tryz.prog w = .ok (.tuple #[.agg #[.int .i64 0, .int .i64 0, .slice none 0 0, .slice none 0 0, .slice none 0 0, .slice none 0 0], .bool false]) w := by kernel_rfl
theorem ta_move_permit (v : Value) (w : World) : (Instr.typeAssert (.iface 213 v) 187 215 true).run Tryz.prog w = .ok (.tuple #[.agg #[.int .i64 0, .int .i64 0, .slice none 0 0, .slice none 0 0, .slice none 0 0, .slice none 0 0], .bool false]) w := by kernel_rfl
theorem ta_clean_move (v : Value) (w : World) : (Instr.typeAssert (.iface 214 v) 187 213 true).run Tryz.prog w = .ok (.tuple #[.agg #[.int .i64 0, .int .i64 0, .slice none 0 0, .slice none 0 0, .slice none 0 0, .slice none 0 0], .bool false]) w := by kernel_rfl
theorem ta_clean_clean (v : Value) (w : World) : (Instr.typeAssert (.iface 214 v) 187 214 true).run Tryz.prog w = .ok (.tuple #[v, .bool true]) w := by kernel_rfl
theorem ta_clean_permit (v : Value) (w : World) : (Instr.typeAssert (.iface 214 v) 187 215 true).run Tryz.prog w = .ok (.tuple #[.agg #[.int .i64 0, .int .i64 0, .slice none 0 0, .slice none 0 0, .slice none 0 0, .slice none 0 0], .bool false]) w := by kernel_rfl
theorem ta_permit_move (v : Value) (w : World) : (Instr.typeAssert (.iface 215 v) 187 213 true).run Tryz.prog w = .ok (.tuple #[.agg #[.int .i64 0, .int .i64 0, .slice none 0 0, .slice none 0 0, .slice none 0 0, .slice none 0 0], .bool false]) w := by kernel_rfl
theorem ta_permit_clean (v : Value) (w : World) : (Instr.typeAssert (.iface 215 v) 187 214 true).run Tryz.prog w = .ok (.tuple #[.agg #[.int .i64 0, .int .i64 0, .slice none 0 0, .slice none 0 0, .slice none 0 0, .slice none 0 0], .bool false]) w := by kernel_rfl
theorem ta_permit_permit (v : Value) (w : World) : (Instr.typeAssert (.iface 215 v) 187 215 true).run Tryz.prog w = .ok (.tuple #[v, .bool true]) w := by kernel_rfl
theorem ta_nil_move (w : World) : (Instr.typeAssert .nilIface 187 213 true).run Tryz.prog w = .ok (.tuple #[.agg #[.int .i64 0, .int .i64 0, .slice none 0 0, .slice none 0 0, .slice none 0 0, .slice none 0 0], .bool false]) w := by kernel_rfl
theorem ta_nil_clean (w : World) : (Instr.typeAssert .nilIface 187 214 true).run Tryz.prog w = .ok (.tuple #[.agg #[.int .i64 0, .int .i64 0, .slice none 0 0, .slice none 0 0, .slice none 0 0, .slice none 0 0], .bool false]) w := by kernel_rfl
theorem ta_nil_permit (w : World) : (Instr.typeAssert .nilIface 187 215 true).run Tryz.prog w = .ok (.tuple #[.agg #[.int .i64 0, .int .i64 0, .slice none 0 0, .slice none 0 0, .slice none 0 0, .slice none 0 0], .bool false]) w := by kernel_rfl

set_option maxHeartbeats 400000 in
theorem lists_any (k n kk : Int) (a2 a3 a4 a5 : Option Addr) (n2 n3 n4 n5 c2 c3 c4 c5 : Nat) (w : World) :
    Calls Tryz.prog 149 #[kindV k #[.int .i64 n, .int .i64 kk, .slice a2 n2 c2, .slice a3 n3 c3, .slice a4 n4 c4, .slice a5 n5 c5]] w fun e w' => e = .returned (.bool (listsB k n2 n4)) ∧ Below w.heap.size w w' := by
  have t1 := ta_move_move
  have t2 := ta_clean_move
  have t3 := ta_clean_clean
  have t4 := ta_permit_move
  have t5 := ta_permit_clean
  have t6 := ta_permit_permit
  have t7 := ta_nil_move
  have t8 := ta_nil_clean
  have t9 := ta_nil_permit
  by_cases h1 : k = 1
  · subst h1
    show Calls Tryz.prog 149 #[.iface 213 (.agg #[.int .i64 n, .int .i64 kk, .slice a2 n2 c2, .slice a3 n3 c3, .slice a4 n4 c4, .slice a5 n5 c5])] w _
    go_enter Tryz.func149, Tryz.ntmps149
    go_wp2
    go_ret
    exact ⟨ret_bool (by simp [listsB]), (Below.refl _ _).alloc (Nat.le_refl _) _⟩
  by_cases h2 : k = 2
  · subst h2
    show Calls Tryz.prog 149 #[.iface 214 (.agg #[.int .i64 n, .int .i64 kk, .slice a2 n2 c2, .slice a3 n3 c3, .slice a4 n4 c4, .slice a5 n5 c5])] w _
    by_cases z : n2 = 0
    · subst z
      go_enter Tryz.func149, Tryz.ntmps149
      go_wp2
      go_ret
      exact ⟨ret_bool (by rw [Bool.eq_iff_iff]; simp [listsB]), (Below.refl _ _).alloc (Nat.le_refl _) _⟩
    · have z' : ((n2 : Int) == 0) = false := by simp [z]
      go_enter Tryz.func149, Tryz.ntmps149
      go_wp2
      go_ret
      exact ⟨ret_bool (by simp [listsB, z]), (Below.refl _ _).alloc (Nat.le_refl _) _⟩
  by_cases h3 : k = 3
  · subst h3
    show Calls Tryz.prog 149 #[.iface 215 (.agg #[.int .i64 n, .int .i64 kk, .slice a2 n2 c2, .slice a3 n3 c3, .slice a4 n4 c4, .slice a5 n5 c5])] w _
    by_cases z : n2 = 0
    · subst z
      go_enter Tryz.func149, Tryz.ntmps149
      go_wp2
      go_ret
      exact ⟨ret_bool (by rw [Bool.eq_iff_iff]; simp [listsB]), (Below.refl _ _).alloc (Nat.le_refl _) _⟩
    · have z' : ((n2 : Int) == 0) = false := by simp [z]
      go_enter Tryz.func149, Tryz.ntmps149
      go_wp2
      go_ret
      exact ⟨ret_bool (by simp [listsB, z]), (Below.refl _ _).alloc (Nat.le_refl _) _⟩
  · have hk : kindV k #[.int .i64 n, .int .i64 kk, .slice a2 n2 c2, .slice a3 n3 c3, .slice a4 n4 c4, .slice a5 n5 c5] = .nilIface := by simp [kindV, h1, h2, h3]
    rw [hk]
    go_enter Tryz.func149, Tryz.ntmps149
    go_wp2
    go_ret
    exact ⟨ret_bool (by simp [listsB, h1, h2, h3]), Below.refl _ _⟩

end Go.Proofs.YtfmhkicncgccjaaGreatDoor
