/- Joined: Names, Asc, NamesB. -/
import Derived.Test.YtfmhkicncgccjaaGreatFm01
/- What the functions answer that look at lists of names. -/
namespace Go.Proofs.YtfmhkicncgccjaaGreat
open Go.RowKit Go.Sort

/-- A name at its place: a name, and behind the one ahead of it. -/
def nameAtB (ss : List ByteArray) (k : Nat) : Bool := nameB (gs ss k) && (k == 0 || ltS (gs ss (k - 1)) (gs ss k))
def namesB (ss : List ByteArray) (most : Int) : Bool := decide ((ss.length : Int) ≤ most) && allTo ss.length (nameAtB ss)

theorem namesB_many {ss : List ByteArray} {most : Int} (h : most < ss.length) : namesB ss most = false := by
 unfold namesB; rw [decide_eq_false (by omega)]; rfl
theorem namesB_bad {ss : List ByteArray} {most : Int} (k : Nat) (hk : k < ss.length) (h : nameAtB ss k = false) : namesB ss most = false := by
 unfold namesB; rw [allTo_false k hk h, Bool.and_false]
theorem namesB_good {ss : List ByteArray} {most : Int} (h : (ss.length : Int) ≤ most) (ha : allTo ss.length (nameAtB ss) = true) : namesB ss most = true := by
 unfold namesB; rw [ha, decide_eq_true h]; rfl

set_option maxHeartbeats 400000 in
theorem l1NamesOk_any (a : Option Addr) (cap : Nat) (ss : List ByteArray) (most : Int) (w : World) (hm : StrsAt w a ss) (hf : Fit ss) :
 Calls Tryz.prog 44 #[.slice a ss.length cap, .int .i64 most] w fun e w' => e = .returned (.bool (namesB ss most)) ∧ Below w.heap.size w w' := by
 obtain ⟨hl, hs⟩ := hf
 unfold maxLen at hl
 by_cases hmany : most < (ss.length : Int)
 · go_enter Tryz.func44, Tryz.ntmps44
   go_wp2
   go_ret
   exact ⟨ret_bool (namesB_many hmany).symm, Below.refl _ _⟩
 · go_enter Tryz.func44, Tryz.ntmps44
   go_wp2
   go_loopw [5] (fun i wr => ∃ (k : Nat), k ≤ ss.length ∧ i = .int .i64 k ∧ allTo k (nameAtB ss) = true ∧ Below w.heap.size w wr) (fun i _ => ss.length - (intOf i).toNat)
   case atStart => exact ⟨0, Nat.zero_le _, rfl, rfl, Below.refl _ _⟩
   case round wr =>
    obtain ⟨k, hk, rfl, hall, hbel⟩ := hrel
    by_cases hlt : k < ss.length
    · obtain ⟨b, o, ha, hb, hc⟩ := (hm.later hbel).at hlt
      have hsz : (gs ss k).size ≤ maxLen := hs _ (gs_mem hlt)
      have hcall := fun n => quietSame (w := wr) (n := n) (l1NameOk_any (gs ss k) _ hsz)
      clear hs
      cases hq : nameB (gs ss k) with
      | false =>
       rw [hq] at hcall
       subst ha
       go_wp2
       go_quiet (exact hcall _)
       go_wp2
       go_ret
       exact ⟨ret_bool (namesB_bad k hlt (by unfold nameAtB; rw [hq]; rfl)).symm, below_drewN hbel _⟩
      | true =>
       rw [hq] at hcall
       by_cases hk0 : k = 0
       · subst hk0
         subst ha
         simp only [Nat.add_zero] at hc
         go_wp2
         go_quiet (exact hcall _)
         go_wp2
         go_roundw
         case rel => exact ⟨1, by omega, rfl, by simp [allTo, nameAtB, hq], below_drewN hbel _⟩
         case measure => simp [intOf]; omega
       · obtain ⟨j, rfl⟩ : ∃ j, k = j + 1 := ⟨k - 1, by omega⟩
         obtain ⟨b', o', ha', hb', hc'⟩ := (hm.later hbel).at (k := j) (by omega)
         subst ha
         simp only [Option.some.injEq, Addr.mk.injEq, and_true] at ha'
         obtain ⟨rfl, rfl⟩ := ha'
         have hc'' : wr.cell? ⟨b, o + (j + 1), none⟩ = some (.string (gs ss (j + 1))) := hc
         have hat : nameAtB ss (j + 1) = ltS (gs ss j) (gs ss (j + 1)) := by simp [nameAtB, hq]
         cases hq2 : ltS (gs ss j) (gs ss (j + 1)) with
         | true =>
          have hq3 : Op.bytesLess (gs ss j).toList (gs ss (j + 1)).toList = true := hq2
          rw [hq2] at hat
          go_wp2
          go_quiet (exact hcall _)
          go_wp2
          go_roundw
          case rel => exact ⟨j + 1 + 1, by omega, by go_num, allTo_succ hall hat, below_drewN hbel _⟩
          case measure => simp [intOf]; omega
         | false =>
          have hq3 : Op.bytesLess (gs ss j).toList (gs ss (j + 1)).toList = false := hq2
          rw [hq2] at hat
          go_wp2
          go_quiet (exact hcall _)
          go_wp2
          go_ret
          exact ⟨ret_bool (namesB_bad (j + 1) hlt hat).symm, below_drewN hbel _⟩
    · go_wp2
      go_ret
      have : k = ss.length := by omega
      subst this
      exact ⟨ret_bool (namesB_good (by omega) hall).symm, hbel⟩

end Go.Proofs.YtfmhkicncgccjaaGreat

/- What the functions answer that hold neighbours against each other. -/
namespace Go.Proofs.YtfmhkicncgccjaaGreat
open Go.RowKit Go.Sort

def ascB (ss : List ByteArray) : Bool := allTo ss.length (fun k => k == 0 || ltS (gs ss (k - 1)) (gs ss k))
def ascUB (us : List Use) : Bool := allTo us.length (fun k => k == 0 || ltS (gu us (k - 1)).name (gu us k).name)

set_option maxHeartbeats 400000 in
theorem ascending_any (a : Option Addr) (cap : Nat) (ss : List ByteArray) (w : World) (hm : StrsAt w a ss) (hl : ss.length ≤ maxLen) :
 Calls Tryz.prog 136 #[.slice a ss.length cap, .func (.func 137) #[] #[]] w fun e w' => e = .returned (.bool (ascB ss)) ∧ Below w.heap.size w w' := by
 unfold maxLen at hl
 go_enter Tryz.func136, Tryz.ntmps136
 go_wp2
 go_loopw [5] (fun i wr => ∃ (k : Nat), (k ≤ ss.length ∨ k = 1) ∧ 1 ≤ k ∧ i = .int .i64 k ∧ allTo k (fun k => k == 0 || ltS (gs ss (k - 1)) (gs ss k)) = true ∧ Below w.heap.size w wr) (fun i _ => ss.length - (intOf i).toNat)
 case atStart => exact ⟨1, Or.inr rfl, Nat.le_refl _, rfl, rfl, Below.refl _ _⟩
 case round wr =>
  obtain ⟨k, hk, hk1, rfl, hall, hbel⟩ := hrel
  by_cases hlt : k < ss.length
  · obtain ⟨j, rfl⟩ : ∃ j, k = j + 1 := ⟨k - 1, by omega⟩
    obtain ⟨b, o, ha, hb, hc⟩ := (hm.later hbel).at hlt
    obtain ⟨b', o', ha', hb', hc'⟩ := (hm.later hbel).at (k := j) (by omega)
    subst ha
    simp only [Option.some.injEq, Addr.mk.injEq, and_true] at ha'
    obtain ⟨rfl, rfl⟩ := ha'
    have hcall := fun n => quietSame (w := wr) (n := n) (namesOk1_any (gs ss j) (gs ss (j + 1)) _)
    cases hq : ltS (gs ss j) (gs ss (j + 1)) with
    | true =>
     rw [hq] at hcall
     go_wp2
     go_quiet (exact hcall _)
     go_wp2
     go_roundw
     case rel => exact ⟨j + 1 + 1, by omega, by omega, by go_num, allTo_succ hall (by simp [hq]), below_drewN hbel _⟩
     case measure => simp [intOf]; omega
    | false =>
     rw [hq] at hcall
     go_wp2
     go_quiet (exact hcall _)
     go_wp2
     go_ret
     exact ⟨ret_bool (allTo_false (j + 1) hlt (by simp [hq])).symm, below_drewN hbel _⟩
  · go_wp2
    go_ret
    refine ⟨ret_bool ?_, hbel⟩
    refine (allTo_iff.2 fun i hi => ?_).symm
    exact allTo_iff.1 hall i (by omega)

set_option maxHeartbeats 400000 in
theorem ascendingU_any (a : Option Addr) (cap : Nat) (us : List Use) (w : World) (hm : UsesAt w a us) (hl : us.length ≤ maxLen) :
 Calls Tryz.prog 159 #[.slice a us.length cap, .func (.func 160) #[] #[]] w fun e w' => e = .returned (.bool (ascUB us)) ∧ Below w.heap.size w w' := by
 unfold maxLen at hl
 go_enter Tryz.func159, Tryz.ntmps159
 go_wp2
 go_loopw [5] (fun i wr => ∃ (k : Nat), (k ≤ us.length ∨ k = 1) ∧ 1 ≤ k ∧ i = .int .i64 k ∧ allTo k (fun k => k == 0 || ltS (gu us (k - 1)).name (gu us k).name) = true ∧ Below w.heap.size w wr) (fun i _ => us.length - (intOf i).toNat)
 case atStart => exact ⟨1, Or.inr rfl, Nat.le_refl _, rfl, rfl, Below.refl _ _⟩
 case round wr =>
  obtain ⟨k, hk, hk1, rfl, hall, hbel⟩ := hrel
  by_cases hlt : k < us.length
  · obtain ⟨j, rfl⟩ : ∃ j, k = j + 1 := ⟨k - 1, by omega⟩
    obtain ⟨b, o, ha, hb, hc10, hc11, hc12⟩ := (hm.later hbel).at hlt
    obtain ⟨b', o', ha', hb', hc20, hc21, hc22⟩ := (hm.later hbel).at (k := j) (by omega)
    subst ha
    simp only [Option.some.injEq, Addr.mk.injEq, and_true] at ha'
    obtain ⟨rfl, rfl⟩ := ha'
    have r10 := cell_regrown hc10
    have r11 := cell_regrown hc11
    have r12 := cell_regrown hc12
    have r20 := cell_regrown hc20
    have r21 := cell_regrown hc21
    have r22 := cell_regrown hc22
    have hcall := fun d os => Calls.regrown_of (w := wr) (usesOk1_any (gu us j) (gu us (j + 1)) (grow (redrawn wr d) os))
    unfold useV at hcall
    have hwrap : IntKind.i64.wrap (j : Int) = j := by rw [IntKind.wrap_i64]; omega
    have hj1 : (j : Int) < us.length := by omega
    have hj2 : (j : Int) + 1 < us.length := by omega
    have hj3 : (0 : Int) ≤ (j : Int) + 1 := by omega
    have hj4 : ((j : Int) + 1).toNat = j + 1 := by omega
    go_wp2
    refine wp_region_quiet_below (by kernel_rfl) (by kernel_rfl) ?_
    repeat (quiet_step (exact hcall _ _))
    refine wpQuiet_nil ?_
    intro w1 hw'
    obtain ⟨⟨dq, osq⟩, hw''⟩ := hw'
    have hbel1 : Below w.heap.size w w1 := hbel.trans ((hw'' ▸ below_regrown wr dq osq).mono hbel.size)
    clear hw'' hcall r10 r11 r12 r20 r21 r22
    cases hq : ltS (gu us j).name (gu us (j + 1)).name with
    | true =>
     go_wp2
     go_roundw
     case rel => exact ⟨j + 1 + 1, by omega, by omega, by go_num, allTo_succ hall (by simp [hq]), hbel1⟩
     case measure => simp [intOf]; omega
    | false =>
     go_wp2
     go_ret
     exact ⟨ret_bool (allTo_false (j + 1) hlt (by simp [hq])).symm, hbel1⟩
  · go_wp2
    go_ret
    refine ⟨ret_bool ?_, hbel⟩
    refine (allTo_iff.2 fun i hi => ?_).symm
    exact allTo_iff.1 hall i (by omega)

end Go.Proofs.YtfmhkicncgccjaaGreat

/- What namesOk, shareAny, l1Share answer. -/
namespace Go.Proofs.YtfmhkicncgccjaaGreat
open Go.RowKit Go.Sort

theorem names_both (ss : List ByteArray) : (allTo ss.length (fun i => nameB (gs ss i)) && ascB ss) = allTo ss.length (nameAtB ss) := by
 rw [Bool.eq_iff_iff, Bool.and_eq_true]
 unfold ascB
 rw [allTo_iff, allTo_iff, allTo_iff]
 unfold nameAtB
 constructor
 · rintro ⟨h1, h2⟩ i hi
   rw [h1 i hi, h2 i hi]; rfl
 · intro h
   exact ⟨fun i hi => (Bool.and_eq_true _ _ ▸ h i hi).1, fun i hi => (Bool.and_eq_true _ _ ▸ h i hi).2⟩

set_option maxHeartbeats 400000 in
theorem namesOk_any (a : Option Addr) (cap : Nat) (ss : List ByteArray) (most : Int) (w : World) (hm : StrsAt w a ss) (hf : Fit ss) :
 Calls Tryz.prog 99 #[.slice a ss.length cap, .int .i64 most] w fun e w' => e = .returned (.bool (namesB ss most)) ∧ Below w.heap.size w w' := by
 obtain ⟨hl, hs⟩ := hf
 have hl' := hl
 unfold maxLen at hl
 by_cases hmany : most < (ss.length : Int)
 · go_enter Tryz.func99, Tryz.ntmps99
   go_wp2
   go_ret
   exact ⟨ret_bool (namesB_many hmany).symm, Below.refl _ _⟩
 · go_enter Tryz.func99, Tryz.ntmps99
   go_wp2
   go_loopw [6, 13] (fun _ i wr => ∃ (k : Nat), k ≤ ss.length ∧ i = .int .i64 k ∧ allTo k (fun i => nameB (gs ss i)) = true ∧ Below w.heap.size w wr) (fun _ i _ => ss.length - (intOf i).toNat)
   case atStart => exact ⟨0, Nat.zero_le _, rfl, rfl, Below.refl _ _⟩
   case round wr =>
    obtain ⟨k, hk, rfl, hall, hbel⟩ := hrel
    by_cases hlt : k < ss.length
    · obtain ⟨b, o, ha, hb, hc⟩ := (hm.later hbel).at hlt
      have hsz : (gs ss k).size ≤ maxLen := hs _ (gs_mem hlt)
      clear hs
      subst ha
      cases hq : nameB (gs ss k) with
      | false =>
       go_wp2_with (go_at_call 92; refine (nameOk_any (gs ss k) _ hsz).mono ?_; rintro e w1 ⟨rfl, hb1⟩; rw [hq])
       go_ret
       exact ⟨ret_bool (namesB_bad k hlt (by unfold nameAtB; rw [hq]; rfl)).symm, hbel.trans (hb1.mono hbel.size)⟩
      | true =>
       go_wp2_with (go_at_call 92; refine (nameOk_any (gs ss k) _ hsz).mono ?_; rintro e w1 ⟨rfl, hb1⟩; rw [hq])
       go_roundw
       case rel => exact ⟨k + 1, by omega, by go_num, allTo_succ hall hq, hbel.trans (hb1.mono hbel.size)⟩
       case measure => simp [intOf]; omega
    · have : k = ss.length := by omega
      subst this
      have hm' := hm.later hbel
      go_wp2_with (go_at_call 136; refine (ascending_any a cap ss _ hm' hl').mono ?_; rintro e w1 ⟨rfl, hb1⟩)
      go_ret
      refine ⟨ret_bool ?_, hbel.trans (hb1.mono hbel.size)⟩
      unfold namesB
      rw [← names_both, hall, decide_eq_true (by omega)]; rfl

set_option maxHeartbeats 400000 in
theorem shareAny_any (a b : Option Addr) (ca cb : Nat) (xs ys : List ByteArray) (w : World) (hx : StrsAt w a xs) (hy : StrsAt w b ys) (lx : xs.length ≤ maxLen) (ly : ys.length ≤ maxLen) :
 Calls Tryz.prog 141 #[.slice a xs.length ca, .slice b ys.length cb] w fun e w' => e = .returned (.bool (shareB xs ys)) ∧ w = w' := by
 have lx' := lx
 unfold maxLen at lx'
 go_enter Tryz.func141, Tryz.ntmps141
 go_wp2
 go_loop [6, 9] (fun _ i => ∃ (k : Nat), k ≤ xs.length ∧ i = .int .i64 k ∧ allTo k (fun i => !hasB ys (gs xs i)) = true) (fun _ i => xs.length - (intOf i).toNat)
 case atStart => exact ⟨0, Nat.zero_le _, rfl, rfl⟩
 case round =>
  obtain ⟨k, hk, rfl, hall⟩ := hrel
  by_cases hlt : k < xs.length
  · obtain ⟨b1, o1, ha, hb, hc⟩ := hx.at hlt
    subst ha
    cases hq : hasB ys (gs xs k) with
    | true =>
     go_wp2_with (go_at_call 28; refine (contains_any b cb ys (gs xs k) _ hy ly).mono ?_; rintro e w1 ⟨rfl, rfl⟩; rw [hq])
     go_ret
     exact ⟨ret_bool (anyTo_true k hlt hq).symm, rfl⟩
    | false =>
     go_wp2_with (go_at_call 28; refine (contains_any b cb ys (gs xs k) _ hy ly).mono ?_; rintro e w1 ⟨rfl, rfl⟩; rw [hq])
     go_round
     case rel => exact ⟨k + 1, by omega, by go_num, allTo_succ hall (by simp [hq])⟩
     case measure => simp [intOf]; omega
  · go_wp2
    go_ret
    have : k = xs.length := by omega
    subst this
    exact ⟨ret_bool (anyTo_none hall).symm, rfl⟩

set_option maxHeartbeats 400000 in
theorem l1Share_any (a b : Option Addr) (ca cb : Nat) (xs ys : List ByteArray) (w : World) (hx : StrsAt w a xs) (hy : StrsAt w b ys) (lx : xs.length ≤ maxLen) (ly : ys.length ≤ maxLen) :
 Calls Tryz.prog 86 #[.slice a xs.length ca, .slice b ys.length cb] w fun e w' => e = .returned (.bool (shareB xs ys)) ∧ w = w' := by
 have lx' := lx
 unfold maxLen at lx'
 go_enter Tryz.func86, Tryz.ntmps86
 go_wp2
 go_loop [5] (fun i => ∃ (k : Nat), k ≤ xs.length ∧ i = .int .i64 k ∧ allTo k (fun i => !hasB ys (gs xs i)) = true) (fun i => xs.length - (intOf i).toNat)
 case atStart => exact ⟨0, Nat.zero_le _, rfl, rfl⟩
 case round =>
  obtain ⟨k, hk, rfl, hall⟩ := hrel
  by_cases hlt : k < xs.length
  · obtain ⟨b1, o1, ha, hb, hc⟩ := hx.at hlt
    subst ha
    cases hq : hasB ys (gs xs k) with
    | true =>
     go_wp2_with (go_at_call 29; refine (l1Has_any b cb ys (gs xs k) _ hy ly).mono ?_; rintro e w1 ⟨rfl, rfl⟩; rw [hq])
     go_ret
     exact ⟨ret_bool (anyTo_true k hlt hq).symm, rfl⟩
    | false =>
     go_wp2_with (go_at_call 29; refine (l1Has_any b cb ys (gs xs k) _ hy ly).mono ?_; rintro e w1 ⟨rfl, rfl⟩; rw [hq])
     go_round
     case rel => exact ⟨k + 1, by omega, by go_num, allTo_succ hall (by simp [hq])⟩
     case measure => simp [intOf]; omega
  · go_wp2
    go_ret
    have : k = xs.length := by omega
    subst this
    exact ⟨ret_bool (anyTo_none hall).symm, rfl⟩

end Go.Proofs.YtfmhkicncgccjaaGreat

