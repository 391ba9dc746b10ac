/- Joined: CdS1, CdS2, CdS3. -/
import Derived.Test.YtfmhkicncgccjaaGreatDoorPd06
import Derived.Deep.RegionHeld3
/- What the specification's l2Part, l1Alike, l1Same, l2Clashes and l3Union answer. -/
namespace Go.Proofs.YtfmhkicncgccjaaGreatDoor
open Go.RowKit Go.Sort
set_option linter.unusedSimpArgs false
set_option linter.unusedVariables false

theorem ret_int {a b : Int} (h : a = b) : Ending.returned (.int .i64 a) = .returned (.int .i64 b) := by rw [h]

set_option maxHeartbeats 1000000 in
theorem l2Part_any (x : Book) (af ap av aq : Option Addr) (cf cp cv cq : Nat) (s : Int) (w : World) (hm : PartsAt w aq x.parts) (hl : x.parts.length ≤ maxLen) :
    Calls Tryz.prog 26 #[bookV x af ap av aq cf cp cv cq, .int .i64 s] w fun e w' => e = .returned (.int .i64 (partI x.parts s)) ∧ Below w.heap.size w w' := by
  unfold maxLen at hl
  unfold bookV
  go_enter Tryz.func26, Tryz.ntmps26
  go_wp2
  go_loop [5] (fun i => ∃ (k : Nat), k ≤ x.parts.length ∧ i = .int .i64 k ∧ allTo k (fun i => !((gq x.parts i).want.number == s)) = true) (fun i => x.parts.length - (intOf i).toNat)
  case atStart => exact ⟨0, Nat.zero_le _, rfl, rfl⟩
  case round =>
    obtain ⟨k, hk, rfl, hall⟩ := hrel
    by_cases hlt : k < x.parts.length
    · obtain ⟨b, o, a2, a3, a4, a5, c2, c3, c4, c5, ha, hb, hc0, -⟩ := hm.at hlt
      subst ha
      have hne : b ≠ w.heap.size := by omega
      cases hq : ((gq x.parts k).want.number == s) with
      | true =>
        have hq' : ((gq x.parts k).want.number == s) = true := hq
        go_wp2
        go_ret
        exact ⟨ret_int (partI_hit hlt hall hq).symm, (Below.refl _ _).alloc (Nat.le_refl _) _⟩
      | false =>
        have hq' : ((gq x.parts k).want.number == s) = false := hq
        go_wp2
        go_round
        case rel => exact ⟨k + 1, by omega, by go_num, allTo_succ hall (by simp [hq])⟩
        case measure => simp [intOf]; omega
    · go_wp2
      go_ret
      have : k = x.parts.length := by omega
      subst this
      exact ⟨ret_int (partI_none hall).symm, (Below.refl _ _).alloc (Nat.le_refl _) _⟩

set_option maxHeartbeats 400000 in
theorem l1Alike_any (a b : Option Addr) (ca cb : Nat) (xs ys : List ByteArray) (w : World) (hx : StrsAt w a xs) (hy : StrsAt w b ys) (lx : xs.length ≤ maxLen) :
    Calls Tryz.prog 70 #[.slice a xs.length ca, .slice b ys.length cb] w fun e w' => e = .returned (.bool (eqSS xs ys)) ∧ Below w.heap.size w w' := by
  unfold maxLen at lx
  by_cases hlen : xs.length = ys.length
  · have hl1 : ((xs.length : Int) != (ys.length : Int)) = false := by simp [hlen]
    go_enter Tryz.func70, Tryz.ntmps70
    go_wp2
    go_loopw [5] (fun i wr => ∃ (k : Nat), k ≤ xs.length ∧ i = .int .i64 k ∧ allTo k (fun i => eqS (gs xs i) (gs ys i)) = true ∧ Below w.heap.size w wr) (fun i _ => xs.length - (intOf i).toNat)
    case atStart => exact ⟨0, Nat.zero_le _, rfl, rfl, Below.refl _ _⟩
    case round =>
      obtain ⟨k, hk, rfl, hall, hbel⟩ := hrel
      clear hl1
      by_cases hlt : k < xs.length
      · obtain ⟨b1, o1, ha1, hb1, hc1⟩ := (hx.later hbel).at hlt
        obtain ⟨b2, o2, ha2, hb2, hc2⟩ := (hy.later hbel).at (k := k) (by omega)
        subst ha1 ha2
        have hlt2 : (k : Int) < ys.length := by omega
        have HL : Hid (xs.length = ys.length) := hlen
        clear hlen
        cases hq : eqS (gs xs k) (gs ys k) with
        | true =>
          have hq' : ((gs xs k).toList == (gs ys k).toList) = true := hq
          go_wp2
          go_quiet (fail)
          go_wp2
          go_roundw
          case rel => exact ⟨k + 1, by omega, by go_num, allTo_succ hall hq, below_drewN hbel _⟩
          case measure => simp [intOf]; omega
        | false =>
          have hq' : ((gs xs k).toList == (gs ys k).toList) = false := hq
          go_wp2
          go_quiet (fail)
          go_wp2
          go_ret
          exact ⟨ret_bool (by unfold eqSS; rw [allTo_false k hlt hq, Bool.and_false]), below_drewN hbel _⟩
      · go_wp2
        go_ret
        have : k = xs.length := by omega
        subst this
        exact ⟨ret_bool (by unfold eqSS; rw [hall]; simp [hlen]), hbel⟩
  · have hl1 : ((xs.length : Int) != (ys.length : Int)) = true := by simp; omega
    go_enter Tryz.func70, Tryz.ntmps70
    go_wp2
    go_ret
    exact ⟨ret_bool (by unfold eqSS; simp [hlen]), Below.refl _ _⟩

set_option maxHeartbeats 1000000 in
theorem l2Clashes_any (x : Book) (af ap av aq : Option Addr) (cf cp cv cq : Nat) (a b : Option Addr) (ca cb : Nat) (xs ys : List ByteArray) (w : World) (hm : FoesAt w af x.foes) (hl : x.foes.length ≤ maxLen) (hx : StrsAt w a xs) (hy : StrsAt w b ys) (lx : xs.length ≤ maxLen) (ly : ys.length ≤ maxLen) :
    Calls Tryz.prog 71 #[bookV x af ap av aq cf cp cv cq, .slice a xs.length ca, .slice b ys.length cb] w fun e w' => e = .returned (.bool (clashesB x.foes xs ys)) ∧ Below w.heap.size w w' := by
  have lx' := lx
  unfold maxLen at lx'
  unfold bookV
  go_enter Tryz.func71, Tryz.ntmps71
  go_wp2
  go_loopw [7] (fun i wr => ∃ (k : Nat), k ≤ xs.length ∧ i = .int .i64 k ∧ allTo k (fun i => !clashB x.foes (gs xs i) ys) = true ∧ Below (w.alloc (.cells (bookL x af ap av aq cf cp cv cq).toArray 38)).heap.size (w.alloc (.cells (bookL x af ap av aq cf cp cv cq).toArray 38)) wr) (fun i _ => xs.length - (intOf i).toNat)
  case atStart => exact ⟨0, Nat.zero_le _, rfl, rfl, Below.refl _ _⟩
  case round wr =>
    obtain ⟨k, hk, rfl, hall, hbel⟩ := hrel
    have hbw := below_over hbel
    by_cases hlt : k < xs.length
    · obtain ⟨b1, o, ha, hb, hc⟩ := (hx.later hbw).at hlt
      subst ha
      have row := bookRow hbel
      have r0 := cell_regrown (row.cell 0 rfl)
      have r1 := cell_regrown (row.cell 1 rfl)
      have r2 := cell_regrown (row.cell 2 rfl)
      have r3 := cell_regrown (row.cell 3 rfl)
      have r4 := cell_regrown (row.cell 4 rfl)
      have rc := cell_regrown hc
      have hcall := fun d os => Calls.regrown_of (w := wr) (l2Clash_any x af ap av aq cf cp cv cq (gs xs k) b cb ys (grow (redrawn wr d) os) (hm.later (hbw.trans ((below_regrown wr d os).mono hbw.size))) hl (hy.later (hbw.trans ((below_regrown wr d os).mono hbw.size))) ly)
      unfold bookV at hcall
      have hlt2 : (k : Int) < xs.length := by omega
      clear hc row
      go_wp2
      refine wp_region_quiet_below (by kernel_rfl) (by kernel_rfl) ?_
      repeat (quiet_step (exact hcall _ _))
      refine wpQuiet_nil ?_
      intro w1 hw'
      obtain ⟨⟨dq, osq⟩, hw''⟩ := hw'
      have hbel1 := hbel.trans ((hw'' ▸ below_regrown wr dq osq).mono hbel.size)
      clear hw'' hcall r0 r1 r2 r3 r4 rc
      cases hq : clashB x.foes (gs xs k) ys with
      | true =>
        go_wp2
        go_ret
        exact ⟨ret_bool (anyTo_true k hlt hq).symm, below_over hbel1⟩
      | false =>
        go_wp2
        go_roundw
        case rel => exact ⟨k + 1, by omega, by go_num, allTo_succ hall (by simp [hq]), hbel1⟩
        case measure => simp [intOf]; omega
    · go_wp2
      go_ret
      have : k = xs.length := by omega
      subst this
      exact ⟨ret_bool (anyTo_none hall).symm, hbw⟩

set_option maxHeartbeats 1000000 in
theorem l3Union_any (a b : Option Addr) (ca cb : Nat) (xs ys : List ByteArray) (w : World) (hx : StrsAt w a xs) (hy : StrsAt w b ys) (lx : xs.length ≤ 1000000) (ly : ys.length ≤ 1000000) :
    Calls Tryz.prog 73 #[.slice a xs.length ca, .slice b ys.length cb] w fun e w' => e = .returned (.int .i64 (unionN xs ys)) ∧ Below w.heap.size w w' := by
  have lm : xs.length ≤ maxLen := by unfold maxLen; omega
  go_enter Tryz.func73, Tryz.ntmps73
  go_wp2
  go_loopw [5, 6] (fun n i wr => ∃ (k c : Nat), k ≤ ys.length ∧ n = .int .i64 c ∧ i = .int .i64 k ∧ c = xs.length + countTo k (fun i => !hasB xs (gs ys i)) ∧ Below w.heap.size w wr) (fun _ i _ => ys.length - (intOf i).toNat)
  case atStart => exact ⟨0, xs.length, Nat.zero_le _, rfl, rfl, rfl, Below.refl _ _⟩
  case round wr =>
    obtain ⟨k, c, hk, rfl, rfl, hcnt, hbw⟩ := hrel
    have HC : Hid (c = xs.length + countTo k (fun i => !hasB xs (gs ys i))) := hcnt
    have hcb : c ≤ 2000000 := by have := countTo_le (fun i => !hasB xs (gs ys i)) k; omega
    clear hcnt
    by_cases hlt : k < ys.length
    · obtain ⟨b1, o, ha, hb, hc⟩ := (hy.later hbw).at hlt
      subst ha
      have hlt2 : (k : Int) < ys.length := by omega
      go_wp2_with fail
      refine (l1Has_any a ca xs (gs ys k) _ (hx.later hbw) lm).mono ?_
      rintro e w1 ⟨rfl, rfl⟩
      have hbel1 := hbw
      cases hq : hasB xs (gs ys k) with
      | true =>
        go_wp2
        go_roundw
        case rel => exact ⟨k + 1, c, by omega, rfl, by go_num, by have := HC.out; simp [countTo, hq]; exact this, hbel1⟩
        case measure => simp [intOf]; omega
      | false =>
        go_wp2
        go_roundw
        case rel => exact ⟨k + 1, c + 1, by omega, by go_num, by go_num, by have := HC.out; simp [countTo, hq]; omega, hbel1⟩
        case measure => simp [intOf]; omega
    · go_wp2
      go_ret
      have : k = ys.length := by omega
      subst this
      exact ⟨ret_int (by rw [HC.out]; rfl), hbw⟩

end Go.Proofs.YtfmhkicncgccjaaGreatDoor

/- What the specification's l1Same answers. -/
namespace Go.Proofs.YtfmhkicncgccjaaGreatDoor
open Go.RowKit Go.Sort
set_option linter.unusedSimpArgs false
set_option linter.unusedVariables false

theorem sameB_split {x y : Want} (h0 : x.number = y.number) (h1 : x.kind = y.kind) (h2 : eqSS x.stuffs y.stuffs = true) (h4 : eqSS x.opens y.opens = true) (h5 : eqSS x.shuts y.shuts = true) : sameB x y = eqUU x.uses y.uses := by
  unfold sameB; rw [h0, h1, h2, h4, h5]; simp

set_option maxRecDepth 100000 in
set_option maxHeartbeats 4000000 in
theorem l1Same_any (x y : Want) (a2 a3 a4 a5 : Option Addr) (c2 c3 c4 c5 : Nat) (e2 e3 e4 e5 : Option Addr) (d2 d3 d4 d5 : Nat) (w : World) (hx : WantIn w x a2 a3 a4 a5) (hy : WantIn w y e2 e3 e4 e5) (fx : WantFit x) :
    Calls Tryz.prog 27 #[wantW x a2 a3 a4 a5 c2 c3 c4 c5, wantW y e2 e3 e4 e5 d2 d3 d4 d5] w fun e w' => e = .returned (.bool (sameB x y)) ∧ Below w.heap.size w w' := by
  have hl3 := fx.usesLen
  unfold maxLen at hl3
  unfold wantW
  have b0 : Below w.heap.size w ((w.alloc (.cells #[.int .i64 x.number, .int .i64 x.kind, .slice a2 x.stuffs.length c2, .slice a3 x.uses.length c3, .slice a4 x.opens.length c4, .slice a5 x.shuts.length c5] 42)).alloc (.cells #[.int .i64 y.number, .int .i64 y.kind, .slice e2 y.stuffs.length d2, .slice e3 y.uses.length d3, .slice e4 y.opens.length d4, .slice e5 y.shuts.length d5] 42)) :=
    ((Below.refl _ _).alloc (Nat.le_refl _) _).alloc (by simp) _
  have i0 := (Row.new w 42 [.int .i64 x.number, .int .i64 x.kind, .slice a2 x.stuffs.length c2, .slice a3 x.uses.length c3, .slice a4 x.opens.length c4, .slice a5 x.shuts.length c5]).alloc (.cells #[.int .i64 y.number, .int .i64 y.kind, .slice e2 y.stuffs.length d2, .slice e3 y.uses.length d3, .slice e4 y.opens.length d4, .slice e5 y.shuts.length d5] 42)
  have o0 := Row.new (w.alloc (.cells #[.int .i64 x.number, .int .i64 x.kind, .slice a2 x.stuffs.length c2, .slice a3 x.uses.length c3, .slice a4 x.opens.length c4, .slice a5 x.shuts.length c5] 42)) 42 [.int .i64 y.number, .int .i64 y.kind, .slice e2 y.stuffs.length d2, .slice e3 y.uses.length d3, .slice e4 y.opens.length d4, .slice e5 y.shuts.length d5]
  have hsz : (w.alloc (.cells #[.int .i64 x.number, .int .i64 x.kind, .slice a2 x.stuffs.length c2, .slice a3 x.uses.length c3, .slice a4 x.opens.length c4, .slice a5 x.shuts.length c5] 42)).heap.size = w.heap.size + 1 := by simp
  rw [hsz] at o0
  clear hsz
  by_cases n0 : x.number = y.number
  case neg =>
    have g0 : (x.number != y.number) = true := by simp [n0]
    have HN : Hid (¬ x.number = y.number) := n0
    clear n0
    go_enter Tryz.func27, Tryz.ntmps27
    go_wp2
    go_ret
    exact ⟨ret_bool (by simp [sameB, HN.out]), b0⟩
  have g0 : (x.number != y.number) = false := by simp [n0]
  have HN : Hid (x.number = y.number) := n0
  clear n0
  by_cases n1 : x.kind = y.kind
  case neg =>
    have g1 : (x.kind != y.kind) = true := by simp [n1]
    have HK : Hid (¬ x.kind = y.kind) := n1
    clear n1
    go_enter Tryz.func27, Tryz.ntmps27
    go_wp2
    go_ret
    exact ⟨ret_bool (by simp [sameB, HK.out]), b0⟩
  have g1 : (x.kind != y.kind) = false := by simp [n1]
  have HK : Hid (x.kind = y.kind) := n1
  clear n1
  by_cases n2 : x.uses.length = y.uses.length
  case neg =>
    have g2 : ((x.uses.length : Int) != (y.uses.length : Int)) = true := by simp; omega
    have HU : Hid (¬ x.uses.length = y.uses.length) := n2
    clear n2
    go_enter Tryz.func27, Tryz.ntmps27
    go_wp2
    go_ret
    exact ⟨ret_bool (by simp [sameB, eqUU, HU.out]), b0⟩
  have g2 : ((x.uses.length : Int) != (y.uses.length : Int)) = false := by simp [n2]
  have HU : Hid (x.uses.length = y.uses.length) := n2
  clear n2
  go_enter Tryz.func27, Tryz.ntmps27
  go_wp2_with fail
  clear g0 g1 g2
  refine (l1Alike_any a2 e2 c2 d2 x.stuffs y.stuffs _ (hx.later b0).stuffs (hy.later b0).stuffs fx.stuffs.1).mono ?_
  rintro e w1 ⟨rfl, hb⟩
  have b1 := b0.trans (hb.mono b0.size)
  have i1 := i0.later hb
  have o1 := o0.later hb
  clear b0 i0 o0 hb
  cases h2 : eqSS x.stuffs y.stuffs with
  | false =>
    go_wp2
    go_ret
    exact ⟨ret_bool (by simp [sameB, h2]), b1⟩
  | true =>
  have p4 := i1.cell 4 rfl
  have q4 := o1.cell 4 rfl
  go_wp2_with fail
  refine (l1Alike_any a4 e4 c4 d4 x.opens y.opens _ (hx.later b1).opens (hy.later b1).opens fx.opens.1).mono ?_
  rintro e w2 ⟨rfl, hb⟩
  have b2 := b1.trans (hb.mono b1.size)
  have i2 := i1.later hb
  have o2 := o1.later hb
  clear b1 i1 o1 hb p4 q4
  cases h4 : eqSS x.opens y.opens with
  | false =>
    go_wp2
    go_ret
    exact ⟨ret_bool (by simp [sameB, h4]), b2⟩
  | true =>
  have p5 := i2.cell 5 rfl
  have q5 := o2.cell 5 rfl
  go_wp2_with fail
  refine (l1Alike_any a5 e5 c5 d5 x.shuts y.shuts _ (hx.later b2).shuts (hy.later b2).shuts fx.shuts.1).mono ?_
  rintro e w3 ⟨rfl, hb⟩
  have b3 := b2.trans (hb.mono b2.size)
  have i3 := i2.later hb
  have o3 := o2.later hb
  clear b2 i2 o2 hb p5 q5
  cases h5 : eqSS x.shuts y.shuts with
  | false =>
    go_wp2
    go_ret
    exact ⟨ret_bool (by simp [sameB, h5]), b3⟩
  | true =>
  have HS : Hid (sameB x y = eqUU x.uses y.uses) := sameB_split HN.out HK.out h2 h4 h5
  have p3 := i3.cell 3 rfl
  have q3 := o3.cell 3 rfl
  clear h2 h4 h5
  go_wp2
  go_loopw [5] (fun i wr => ∃ (k : Nat), k ≤ x.uses.length ∧ i = .int .i64 k ∧ allTo k (fun i => eqU (gu x.uses i) (gu y.uses i)) = true ∧ Below w3.heap.size w3 wr) (fun i _ => x.uses.length - (intOf i).toNat)
  case atStart => exact ⟨0, Nat.zero_le _, rfl, rfl, Below.refl _ _⟩
  case round wr =>
    obtain ⟨k, hk, rfl, hall, hbel⟩ := hrel
    have hbw := b3.trans (hbel.mono b3.size)
    have p3' := (i3.later hbel).cell 3 rfl
    have q3' := (o3.later hbel).cell 3 rfl
    clear p3 q3
    by_cases hlt : k < x.uses.length
    · obtain ⟨b1, o1, ha1, hb1, hc10, hc11, hc12⟩ := (hx.later hbw).uses.at hlt
      obtain ⟨b2, o2, ha2, hb2, hc20, hc21, hc22⟩ := (hy.later hbw).uses.at (k := k) (by have := HU.out; omega)
      subst ha1 ha2
      have hlt2 : (k : Int) < y.uses.length := by have := HU.out; omega
      cases h1 : eqS (gu x.uses k).name (gu y.uses k).name with
      | false =>
        have h1' : ((gu x.uses k).name.toList == (gu y.uses k).name.toList) = false := h1
        have HQ : Hid (eqU (gu x.uses k) (gu y.uses k) = false) := (by simp [eqU, h1] : eqU (gu x.uses k) (gu y.uses k) = false)
        go_wp2
        go_quiet (fail)
        go_wp2
        go_ret
        exact ⟨ret_bool (by rw [HS.out]; unfold eqUU; rw [allTo_false k hlt HQ.out, Bool.and_false]), below_drewN hbw _⟩
      | true =>
        have h1' : ((gu x.uses k).name.toList == (gu y.uses k).name.toList) = true := h1
        cases h2 : (gu x.uses k).role == (gu y.uses k).role with
        | false =>
          have HQ : Hid (eqU (gu x.uses k) (gu y.uses k) = false) := (by simp [eqU, h2] : eqU (gu x.uses k) (gu y.uses k) = false)
          go_wp2
          go_quiet (fail)
          go_wp2
          go_ret
          exact ⟨ret_bool (by rw [HS.out]; unfold eqUU; rw [allTo_false k hlt HQ.out, Bool.and_false]), below_drewN hbw _⟩
        | true =>
          cases h3 : (gu x.uses k).amount == (gu y.uses k).amount with
          | false =>
            have HQ : Hid (eqU (gu x.uses k) (gu y.uses k) = false) := (by simp [eqU, h3] : eqU (gu x.uses k) (gu y.uses k) = false)
            go_wp2
            go_quiet (fail)
            go_wp2
            go_ret
            exact ⟨ret_bool (by rw [HS.out]; unfold eqUU; rw [allTo_false k hlt HQ.out, Bool.and_false]), below_drewN hbw _⟩
          | true =>
            have HQ : Hid (eqU (gu x.uses k) (gu y.uses k) = true) := (by unfold eqU; rw [h1, h2, h3]; rfl : eqU (gu x.uses k) (gu y.uses k) = true)
            go_wp2
            go_quiet (fail)
            go_wp2
            go_roundw
            case rel => exact ⟨k + 1, by omega, by go_num, allTo_succ hall HQ.out, below_drewN hbel _⟩
            case measure => simp [intOf]; omega
    · go_wp2
      go_ret
      have : k = x.uses.length := by omega
      subst this
      exact ⟨ret_bool (by rw [HS.out]; unfold eqUU; rw [hall]; simp [HU.out]), hbw⟩

end Go.Proofs.YtfmhkicncgccjaaGreatDoor

/- What the specification's l3Amounts answers. -/
namespace Go.Proofs.YtfmhkicncgccjaaGreatDoor
open Go.RowKit Go.Sort
set_option linter.unusedSimpArgs false
set_option linter.unusedVariables false

/-- Every spot's numbers can be reckoned with. -/
def MostFit (x : Book) : Prop := ∀ s ∈ x.spots, 0 ≤ s.most ∧ s.most ≤ 1000

/-- What a callee leaves that was called in W, itself behind w0. -/
structure Later (w0 W w' : World) : Prop where
  below : Below w0.heap.size w0 w'
  size : w0.heap.size ≤ w'.heap.size
  cell : ∀ (a : Addr) (v : Value), W.cell? a = some v → w'.cell? a = some v
  frozen : ∀ (a : Addr) (v : Value), W.cell? a = some v → W.frozen? a = false → w'.frozen? a = false
theorem Later.of {w0 W w' : World} (h : Below w0.heap.size w0 W) (h' : Below W.heap.size W w') : Later w0 W w' := by
  refine ⟨h.trans (h'.mono h.size), Nat.le_trans h.size h'.size, fun a v hv => cell_later h' hv, fun a v hv hf => ?_⟩
  have hl := block_lt_of_cell hv
  have e := h'.block a.block hl
  unfold World.frozen? at hf ⊢
  rw [e]
  exact hf

theorem amt_9 {s : Spot} {y : Want} {u : Use} (h1 : u.role = 1) (h2 : s.least < u.amount) : amtCode s y u = 9 := by simp [amtCode, h1, h2]
theorem amt_10 {s : Spot} {y : Want} {u : Use} (h1 : u.role = 2) (h2 : s.cap < s.most + u.amount) : amtCode s y u = 10 := by simp [amtCode, h1, h2]
theorem amt_11 {s : Spot} {y : Want} {u : Use} (h1 : ¬ (u.role = 1 ∧ s.least < u.amount)) (h2 : ¬ (u.role = 2 ∧ s.cap < s.most + u.amount)) (h3 : y.kind = 2) (h4 : 0 < s.most) : amtCode s y u = 11 := by
  unfold amtCode
  simp only [Bool.and_eq_true, beq_iff_eq, decide_eq_true_eq]
  rw [if_neg h1, if_neg h2, if_pos ⟨h3, h4⟩]
theorem amt_0 {s : Spot} {y : Want} {u : Use} (h1 : ¬ (u.role = 1 ∧ s.least < u.amount)) (h2 : ¬ (u.role = 2 ∧ s.cap < s.most + u.amount)) (h3 : ¬ (y.kind = 2 ∧ 0 < s.most)) : amtCode s y u = 0 := by
  unfold amtCode
  simp only [Bool.and_eq_true, beq_iff_eq, decide_eq_true_eq]
  rw [if_neg h1, if_neg h2, if_neg h3]
theorem amounts_hit {x : Book} {y : Want} {k : Nat} {c : Int} (h : zerosTo k (amtAt x y) = true) (hk : k < y.uses.length) (hc : amtAt x y k = c) (h0 : c ≠ 0) : amountsC x y = c := by
  unfold amountsC; rw [firstTo_hit h (by rw [hc]; exact h0) hk, hc]

/-- Block B holds a spot. -/
def SpotBox (X : World) (B : Nat) (s : Spot) (m : Option Addr) (c : Nat) : Prop :=
  X.cell? ⟨B, 0, none⟩ = some (.string s.name) ∧ X.cell? ⟨B, 1, none⟩ = some (.int .i64 s.cap) ∧ X.cell? ⟨B, 2, none⟩ = some (.int .i64 s.least) ∧ X.cell? ⟨B, 3, none⟩ = some (.int .i64 s.most) ∧ X.cell? ⟨B, 4, none⟩ = some (.slice m s.may.length c)
theorem SpotBox.new (w : World) (s : Spot) (m : Option Addr) (c : Nat) : SpotBox (w.alloc (.cells #[.string s.name, .int .i64 s.cap, .int .i64 s.least, .int .i64 s.most, .slice m s.may.length c] 99)) w.heap.size s m c := by
  refine ⟨?_, ?_, ?_, ?_, ?_⟩ <;> (rw [World.cell?_alloc_new]; rfl)
theorem SpotBox.sets {w : World} {B : Nat} {s : Spot} {m : Option Addr} {c : Nat} {v0 v1 v2 v3 v4 : Value} (h0 : w.cell? ⟨B, 0, none⟩ = some v0) (h1 : w.cell? ⟨B, 1, none⟩ = some v1) (h2 : w.cell? ⟨B, 2, none⟩ = some v2) (h3 : w.cell? ⟨B, 3, none⟩ = some v3) (h4 : w.cell? ⟨B, 4, none⟩ = some v4) :
    SpotBox (((((w.setCell ⟨B, 0, none⟩ (.string s.name)).setCell ⟨B, 1, none⟩ (.int .i64 s.cap)).setCell ⟨B, 2, none⟩ (.int .i64 s.least)).setCell ⟨B, 3, none⟩ (.int .i64 s.most)).setCell ⟨B, 4, none⟩ (.slice m s.may.length c)) B s m c := by
  refine ⟨?_, ?_, ?_, ?_, ?_⟩ <;> simp [World.cell?_setCell_same', World.cell?_setCell_other, h0, h1, h2, h3, h4]

set_option maxRecDepth 100000 in
set_option maxHeartbeats 4000000 in
theorem l3Amounts_any (x : Book) (af ap av aq : Option Addr) (cf cp cv cq : Nat) (y : Want) (a2 a3 a4 a5 : Option Addr) (c2 c3 c4 c5 : Nat) (w : World) (hx : BookIn w x af ap av aq) (hy : WantIn w y a2 a3 a4 a5) (fx : BookFit x) (fy : WantFit y) (hmf : MostFit x) (hwo : wantB y = true) (hkn : knowsB x y = true) :
    Calls Tryz.prog 32 #[bookV x af ap av aq cf cp cv cq, wantW y a2 a3 a4 a5 c2 c3 c4 c5] w fun e w' => e = .returned (.int .i64 (amountsC x y)) ∧ Below w.heap.size w w' := by
  have hl3 := fy.usesLen
  unfold maxLen at hl3
  unfold bookV wantW
  have b0 : Below w.heap.size w ((w.alloc (.cells (bookL x af ap av aq cf cp cv cq).toArray 38)).alloc (.cells (wantL y a2 a3 a4 a5 c2 c3 c4 c5).toArray 42)) :=
    ((Below.refl _ _).alloc (Nat.le_refl _) _).alloc (by simp) _
  have i0 : Row ((w.alloc (.cells (bookL x af ap av aq cf cp cv cq).toArray 38)).alloc (.cells (wantL y a2 a3 a4 a5 c2 c3 c4 c5).toArray 42)) w.heap.size 38 (bookL x af ap av aq cf cp cv cq) := (Row.new w 38 (bookL x af ap av aq cf cp cv cq)).alloc _
  have o0 : Row ((w.alloc (.cells (bookL x af ap av aq cf cp cv cq).toArray 38)).alloc (.cells (wantL y a2 a3 a4 a5 c2 c3 c4 c5).toArray 42)) (w.heap.size + 1) 42 (wantL y a2 a3 a4 a5 c2 c3 c4 c5) := by
    have := Row.new (w.alloc (.cells (bookL x af ap av aq cf cp cv cq).toArray 38)) 42 (wantL y a2 a3 a4 a5 c2 c3 c4 c5)
    simpa using this
  go_enter Tryz.func32, Tryz.ntmps32
  go_wp2
  go_loopw [5] (fun i wr => ∃ (k : Nat), k ≤ y.uses.length ∧ i = .int .i64 k ∧ zerosTo k (amtAt x y) = true ∧ Below ((w.alloc (.cells (bookL x af ap av aq cf cp cv cq).toArray 38)).alloc (.cells (wantL y a2 a3 a4 a5 c2 c3 c4 c5).toArray 42)).heap.size ((w.alloc (.cells (bookL x af ap av aq cf cp cv cq).toArray 38)).alloc (.cells (wantL y a2 a3 a4 a5 c2 c3 c4 c5).toArray 42)) wr) (fun i _ => y.uses.length - (intOf i).toNat)
  case atStart => exact ⟨0, Nat.zero_le _, rfl, rfl, Below.refl _ _⟩
  case round wr =>
    obtain ⟨k, hk, rfl, hall, hbel⟩ := hrel
    have hbw := b0.trans (hbel.mono b0.size)
    have i3 := i0.later hbel
    have o3 := o0.later hbel
    clear i0 o0 b0
    have y3 := o3.cell 3 rfl
    by_cases hlt : k < y.uses.length
    · obtain ⟨b, o, ha, hb, hc0, hc1, hc2⟩ := (hy.later hbw).uses.at hlt
      obtain ⟨j, hj, hspot⟩ := knowsB_spot hkn hlt
      obtain ⟨bs, os, m, c, has, hbs, hd0, hd1, hd2, hd3, hd4, hst⟩ := (hx.later hbw).spots.at hj
      have ham := wantB_amount hwo hlt
      have hls := hmf _ (gp_mem hj)
      have hcall : ∀ W', Below wr.heap.size wr W' → Calls Tryz.prog 68 #[bookV x af ap av aq cf cp cv cq, .string (gu y.uses k).name] W' fun e w' => e = .returned (.int .i64 (spotI x.spots (gu y.uses k).name)) ∧ Later wr W' w' := fun W' hb' =>
        (l2Spot_any x af ap av aq cf cp cv cq (gu y.uses k).name W' (hx.later (hbw.trans (hb'.mono hbw.size))).spots fx.spots.len).mono fun _ _ h => ⟨h.1, Later.of hb' h.2⟩
      subst ha has
      rw [hspot] at hcall
      unfold bookV at hcall
      have hlt2 : (k : Int) < y.uses.length := by omega
      have hk0 : (0 : Int) ≤ k := by omega
      have hj2 : (j : Int) < x.spots.length := by omega
      have hj0 : (0 : Int) ≤ j := by omega
      have y0 := i3.cell 0 rfl
      have y1 := i3.cell 1 rfl
      have y2 := i3.cell 2 rfl
      have y4 := i3.cell 3 rfl
      have y5 := i3.cell 4 rfl
      have hS : ∀ w', Below wr.heap.size wr w' → (w'.cell? ⟨w.heap.size, 0, none⟩ = some (.slice af x.foes.length cf) ∧ w'.cell? ⟨w.heap.size, 1, none⟩ = some (.slice (some ⟨bs, os, none⟩) x.spots.length cp) ∧ w'.cell? ⟨w.heap.size, 2, none⟩ = some (.slice av x.valves.length cv) ∧
          w'.cell? ⟨w.heap.size, 3, none⟩ = some (.slice aq x.parts.length cq) ∧ w'.cell? ⟨w.heap.size, 4, none⟩ = some (.int .i64 x.seen) ∧ w'.cell? ⟨w.heap.size + 1, 3, none⟩ = some (.slice (some ⟨b, o, none⟩) y.uses.length c3) ∧
          w'.cell? ⟨b, o + k * 3, none⟩ = some (.string (gu y.uses k).name) ∧ w'.cell? ⟨bs, os + j * 5, none⟩ = some (.string (gp x.spots j).name) ∧ w'.cell? ⟨bs, os + j * 5 + 1, none⟩ = some (.int .i64 (gp x.spots j).cap) ∧
          w'.cell? ⟨bs, os + j * 5 + 2, none⟩ = some (.int .i64 (gp x.spots j).least) ∧ w'.cell? ⟨bs, os + j * 5 + 3, none⟩ = some (.int .i64 (gp x.spots j).most) ∧ w'.cell? ⟨bs, os + j * 5 + 4, none⟩ = some (.slice m (gp x.spots j).may.length c) ∧ Below wr.heap.size wr w' ∧ wr.heap.size ≤ w'.heap.size) := fun w' hb' =>
        ⟨cell_later hb' y0, cell_later hb' y1, cell_later hb' y2, cell_later hb' y4, cell_later hb' y5, cell_later hb' y3, cell_later hb' hc0, cell_later hb' hd0, cell_later hb' hd1, cell_later hb' hd2, cell_later hb' hd3, cell_later hb' hd4, hb', hb'.size⟩
      go_wp2_with fail
      go_region_held3 (fun w' => (w'.cell? ⟨w.heap.size, 0, none⟩ = some (.slice af x.foes.length cf) ∧ w'.cell? ⟨w.heap.size, 1, none⟩ = some (.slice (some ⟨bs, os, none⟩) x.spots.length cp) ∧ w'.cell? ⟨w.heap.size, 2, none⟩ = some (.slice av x.valves.length cv) ∧
          w'.cell? ⟨w.heap.size, 3, none⟩ = some (.slice aq x.parts.length cq) ∧ w'.cell? ⟨w.heap.size, 4, none⟩ = some (.int .i64 x.seen) ∧ w'.cell? ⟨w.heap.size + 1, 3, none⟩ = some (.slice (some ⟨b, o, none⟩) y.uses.length c3) ∧
          w'.cell? ⟨b, o + k * 3, none⟩ = some (.string (gu y.uses k).name) ∧ w'.cell? ⟨bs, os + j * 5, none⟩ = some (.string (gp x.spots j).name) ∧ w'.cell? ⟨bs, os + j * 5 + 1, none⟩ = some (.int .i64 (gp x.spots j).cap) ∧
          w'.cell? ⟨bs, os + j * 5 + 2, none⟩ = some (.int .i64 (gp x.spots j).least) ∧ w'.cell? ⟨bs, os + j * 5 + 3, none⟩ = some (.int .i64 (gp x.spots j).most) ∧ w'.cell? ⟨bs, os + j * 5 + 4, none⟩ = some (.slice m (gp x.spots j).may.length c) ∧ Below wr.heap.size wr w' ∧ wr.heap.size ≤ w'.heap.size))
        ((refine hS _ ?_; repeat (first | assumption | exact Below.refl _ _ | refine Below.drew ?_ | refine Below.alloc ?_ (by (try simp); (try omega)) _ | refine Below.setCell ?_ (by (try simp); (try omega)) _)))
        (first | (go_at_call 68; refine (hcall _ ?_).mono ?_; (simp [*]); rintro e w' ⟨rfl, hb', hsz', hlat, hfro⟩; have z0 := hlat ⟨wr.heap.size, 0, none⟩ (.string { data := #[] }); have f0 := hfro ⟨wr.heap.size, 0, none⟩ (.string { data := #[] }); have z1 := hlat ⟨wr.heap.size, 1, none⟩ (.int .i64 0); have f1 := hfro ⟨wr.heap.size, 1, none⟩ (.int .i64 0); have z2 := hlat ⟨wr.heap.size, 2, none⟩ (.int .i64 0); have f2 := hfro ⟨wr.heap.size, 2, none⟩ (.int .i64 0); have z3 := hlat ⟨wr.heap.size, 3, none⟩ (.int .i64 0); have f3 := hfro ⟨wr.heap.size, 3, none⟩ (.int .i64 0); have z4 := hlat ⟨wr.heap.size, 4, none⟩ (.slice none 0 0); have f4 := hfro ⟨wr.heap.size, 4, none⟩ (.slice none 0 0); try simp at z0 z1 z2 z3 z4 f0 f1 f2 f3 f4))
      all_goals first
        | (have q := SpotBox.sets (s := gp x.spots j) (m := m) (c := c) z0 z1 z2 z3 z4
           have hbX := ((((hb'.setCell (p := ⟨wr.heap.size, 0, none⟩) (Nat.le_refl _) (.string (gp x.spots j).name)).setCell (p := ⟨wr.heap.size, 1, none⟩) (Nat.le_refl _) (.int .i64 (gp x.spots j).cap)).setCell (p := ⟨wr.heap.size, 2, none⟩) (Nat.le_refl _) (.int .i64 (gp x.spots j).least)).setCell (p := ⟨wr.heap.size, 3, none⟩) (Nat.le_refl _) (.int .i64 (gp x.spots j).most)).setCell (p := ⟨wr.heap.size, 4, none⟩) (Nat.le_refl _) (.slice m (gp x.spots j).may.length c)
           rename_i hHeld
           clear hHeld hlat hfro z0 z1 z2 z3 z4 f0 f1 f2 f3 f4 hb' hsz'
           generalize ((((w'.setCell ⟨wr.heap.size, 0, none⟩ (.string (gp x.spots j).name)).setCell ⟨wr.heap.size, 1, none⟩ (.int .i64 (gp x.spots j).cap)).setCell ⟨wr.heap.size, 2, none⟩ (.int .i64 (gp x.spots j).least)).setCell ⟨wr.heap.size, 3, none⟩ (.int .i64 (gp x.spots j).most)).setCell ⟨wr.heap.size, 4, none⟩ (.slice m (gp x.spots j).may.length c) = X at q hbX ⊢
           obtain ⟨B, hB⟩ : ∃ B, B = wr.heap.size := ⟨_, rfl⟩
           rw [← hB] at q ⊢
           clear hB)
        | (have q := SpotBox.new w' (gp x.spots j) m c
           have hbX := hb'.alloc hsz' (.cells #[.string (gp x.spots j).name, .int .i64 (gp x.spots j).cap, .int .i64 (gp x.spots j).least, .int .i64 (gp x.spots j).most, .slice m (gp x.spots j).may.length c] 99)
           rename_i hHeld
           clear hHeld hlat hfro z0 z1 z2 z3 z4 f0 f1 f2 f3 f4 hb' hsz'
           generalize w'.alloc (.cells #[.string (gp x.spots j).name, .int .i64 (gp x.spots j).cap, .int .i64 (gp x.spots j).least, .int .i64 (gp x.spots j).most, .slice m (gp x.spots j).may.length c] 99) = X at q hbX ⊢
           generalize w'.heap.size = B at q ⊢)
      all_goals
        clear hS hcall y0 y1 y2 y4 y5
        obtain ⟨p0, p1, p2, p3, p4⟩ := q
        have hpl := block_lt_of_cell p0
        dsimp only at hpl
        have hO := hbw.trans (hbX.mono hbw.size)
        have y3' := cell_later hbX y3
        have e0 := cell_later hbX hc0
        have e1 := cell_later hbX hc1
        have e2 := cell_later hbX hc2
        have t1 := (o3.later hbX).cell 1 rfl
        have ht1 := block_lt_of_cell t1
        dsimp only at ht1
        have HA : Hid (amtAt x y k = amtCode (gp x.spots j) y (gu y.uses k)) := (by unfold amtAt spotOf spotAtI; rw [hspot]; rfl : amtAt x y k = amtCode (gp x.spots j) y (gu y.uses k))
        clear hspot
        clear y3 hc0 hc1 hc2 hd0 hd1 hd2 hd3 hd4
        have hsz := Nat.le_trans hbw.size hbX.size
        have hbel1 := hbel.trans (hbX.mono hbel.size)
        have hsz1 := hbel1.size
        have HS : Hid (RowKit.Below w.heap.size w X ∧ w.heap.size ≤ X.heap.size) := ⟨hO, hsz⟩
        have HB : Hid (RowKit.Below ((w.alloc (.cells (bookL x af (some ⟨bs, os, none⟩) av aq cf cp cv cq).toArray 38)).alloc (.cells (wantL y a2 (some ⟨b, o, none⟩) a4 a5 c2 c3 c4 c5).toArray 42)).heap.size ((w.alloc (.cells (bookL x af (some ⟨bs, os, none⟩) av aq cf cp cv cq).toArray 38)).alloc (.cells (wantL y a2 (some ⟨b, o, none⟩) a4 a5 c2 c3 c4 c5).toArray 42)) X) := hbel1
        clear hsz hO hbel1 hsz1 hbel hbX hbw i3 o3
        have HR1 : Hid ((gu y.uses k).role = 1 ↔ ((gu y.uses k).role == 1) = true) := (by simp : (gu y.uses k).role = 1 ↔ ((gu y.uses k).role == 1) = true)
        have HR2 : Hid ((gu y.uses k).role = 2 ↔ ((gu y.uses k).role == 2) = true) := (by simp : (gu y.uses k).role = 2 ↔ ((gu y.uses k).role == 2) = true)
        have HK2 : Hid (y.kind = 2 ↔ (y.kind == 2) = true) := (by simp : y.kind = 2 ↔ (y.kind == 2) = true)
        cases r1 : (gu y.uses k).role == 1 <;> cases r2 : (gu y.uses k).role == 2 <;> cases k2 : y.kind == 2
        all_goals go_wp2
        all_goals first
          | (go_ret
             refine ⟨ret_int ?_, HS.out.1.alloc HS.out.2 _⟩
             first
               | exact (amounts_hit hall hlt (HA.out.trans (amt_9 (by have h1 := HR1.out; have h2 := HR2.out; have h3 := HK2.out; rw [r1] at h1; rw [r2] at h2; rw [k2] at h3; simp at h1 h2 h3; omega) (by have h1 := HR1.out; have h2 := HR2.out; have h3 := HK2.out; rw [r1] at h1; rw [r2] at h2; rw [k2] at h3; simp at h1 h2 h3; omega))) (by decide)).symm
               | exact (amounts_hit hall hlt (HA.out.trans (amt_10 (by have h1 := HR1.out; have h2 := HR2.out; have h3 := HK2.out; rw [r1] at h1; rw [r2] at h2; rw [k2] at h3; simp at h1 h2 h3; omega) (by have h1 := HR1.out; have h2 := HR2.out; have h3 := HK2.out; rw [r1] at h1; rw [r2] at h2; rw [k2] at h3; simp at h1 h2 h3; omega))) (by decide)).symm
               | exact (amounts_hit hall hlt (HA.out.trans (amt_11 (by have h1 := HR1.out; have h2 := HR2.out; have h3 := HK2.out; rw [r1] at h1; rw [r2] at h2; rw [k2] at h3; simp at h1 h2 h3; omega) (by have h1 := HR1.out; have h2 := HR2.out; have h3 := HK2.out; rw [r1] at h1; rw [r2] at h2; rw [k2] at h3; simp at h1 h2 h3; omega) (by have h1 := HR1.out; have h2 := HR2.out; have h3 := HK2.out; rw [r1] at h1; rw [r2] at h2; rw [k2] at h3; simp at h1 h2 h3; omega) (by have h1 := HR1.out; have h2 := HR2.out; have h3 := HK2.out; rw [r1] at h1; rw [r2] at h2; rw [k2] at h3; simp at h1 h2 h3; omega))) (by decide)).symm)
          | (go_roundw
             case rel => exact ⟨k + 1, by omega, by go_num, zerosTo_succ hall (HA.out.trans (amt_0 (by have h1 := HR1.out; have h2 := HR2.out; have h3 := HK2.out; rw [r1] at h1; rw [r2] at h2; rw [k2] at h3; simp at h1 h2 h3; omega) (by have h1 := HR1.out; have h2 := HR2.out; have h3 := HK2.out; rw [r1] at h1; rw [r2] at h2; rw [k2] at h3; simp at h1 h2 h3; omega) (by have h1 := HR1.out; have h2 := HR2.out; have h3 := HK2.out; rw [r1] at h1; rw [r2] at h2; rw [k2] at h3; simp at h1 h2 h3; omega))), HB.out.alloc HB.out.size _⟩
             case measure => simp [intOf]; omega)
    · have : k = y.uses.length := by omega
      subst this
      go_wp2
      go_ret
      exact ⟨ret_int (firstTo_zeros hall).symm, hbw⟩

end Go.Proofs.YtfmhkicncgccjaaGreatDoor
