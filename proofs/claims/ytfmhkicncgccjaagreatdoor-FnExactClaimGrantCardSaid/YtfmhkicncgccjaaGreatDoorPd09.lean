/- Joined: CdI0, CdI1, CdI2, CdI3, CdI4. -/
import Derived.Test.YtfmhkicncgccjaaGreatDoorPd07
import Derived.Test.YtfmhkicncgccjaaGreatDoorPd01
import Derived.Test.YtfmhkicncgccjaaGreatDoorPd02
import Derived.Test.YtfmhkicncgccjaaGreatDoorPd08
/- What the program's partAt answers. -/
namespace Go.Proofs.YtfmhkicncgccjaaGreatDoor
open Go.RowKit Go.Sort
set_option linter.unusedSimpArgs false
set_option linter.unusedVariables false

set_option maxHeartbeats 400000 in
theorem partAt1_any (p : Part) (a2 a3 a4 a5 : Option Addr) (c2 c3 c4 c5 : Nat) (bb : Nat) (n : Int) (w : World) (hc : w.cell? ⟨bb, 0, none⟩ = some (.int .i64 n)) (hbb : bb < w.heap.size) :
    Calls Tryz.prog 155 #[partV p a2 a3 a4 a5 c2 c3 c4 c5, .pointer (some ⟨bb, 0, none⟩)] w fun e w' => e = .returned (.bool (p.want.number == n)) ∧ Below w.heap.size w w' := by
  unfold partV
  have hne : bb ≠ w.heap.size := by omega
  go_enter Tryz.func155, Tryz.ntmps155
  go_wp2
  go_ret
  exact ⟨rfl, (Below.refl _ _).alloc (Nat.le_refl _) _⟩

set_option maxHeartbeats 1000000 in
theorem indexFuncP_any (a : Option Addr) (cap : Nat) (ps : List Part) (bb : Nat) (n : Int) (w : World) (hc : w.cell? ⟨bb, 0, none⟩ = some (.int .i64 n)) (hbb : bb < w.heap.size) (hm : PartsAt w a ps) (hl : ps.length ≤ maxLen) :
    Calls Tryz.prog 154 #[.slice a ps.length cap, .func (.func 155) #[] #[.pointer (some ⟨bb, 0, none⟩)]] w fun e w' => e = .returned (.int .i64 (partI ps n)) ∧ Below w.heap.size w w' := by
  unfold maxLen at hl
  go_enter Tryz.func154, Tryz.ntmps154
  go_wp2
  go_loopw [5, 8] (fun _ i wr => ∃ (k : Nat), k ≤ ps.length ∧ i = .int .i64 k ∧ allTo k (fun i => !((gq ps i).want.number == n)) = true ∧ Below w.heap.size w wr) (fun _ i _ => ps.length - (intOf i).toNat)
  case atStart => exact ⟨0, Nat.zero_le _, rfl, rfl, Below.refl _ _⟩
  case round wr =>
    obtain ⟨k, hk, rfl, hall, hbel⟩ := hrel
    by_cases hlt : k < ps.length
    · obtain ⟨b, o, a2, a3, a4, a5, c2, c3, c4, c5, ha, hb, hc0, hc1, hc2, hc3, hc4, hc5, hc6, -⟩ := (hm.later hbel).at hlt
      subst ha
      have hpc := cell_later hbel hc
      have hbb2 := Nat.lt_of_lt_of_le hbb hbel.size
      go_wp2_with fail
      refine (partAt1_any (gq ps k) a2 a3 a4 a5 c2 c3 c4 c5 bb n _ hpc hbb2).mono ?_
      rintro e w1 ⟨rfl, hb1⟩
      have hb2 := hbel.trans (hb1.mono hbel.size)
      clear hc0 hc1 hc2 hc3 hc4 hc5 hc6
      cases hq : (gq ps k).want.number == n with
      | true =>
        go_wp2
        go_ret
        exact ⟨ret_int (partI_hit hlt hall hq).symm, hb2⟩
      | false =>
        go_wp2
        go_roundw
        case rel => exact ⟨k + 1, by omega, by go_num, allTo_succ hall (by simp [hq]), hb2⟩
        case measure => simp [intOf]; omega
    · go_wp2
      go_ret
      have : k = ps.length := by omega
      subst this
      exact ⟨ret_int (partI_none hall).symm, hbel⟩

set_option maxHeartbeats 1000000 in
theorem partAt_any (a : Option Addr) (cap : Nat) (ps : List Part) (n : Int) (w : World) (hm : PartsAt w a ps) (hl : ps.length ≤ maxLen) :
    Calls Tryz.prog 126 #[.slice a ps.length cap, .int .i64 n] w fun e w' => e = .returned (.int .i64 (partI ps n)) ∧ Below w.heap.size w w' := by
  have b0 : Below w.heap.size w (w.alloc (.cells #[.int .i64 n] 3)) := (Below.refl _ _).alloc (Nat.le_refl _) _
  have i0 := Row.new w 3 [.int .i64 n]
  go_enter Tryz.func126, Tryz.ntmps126
  go_wp2_with fail
  refine (indexFuncP_any a cap ps w.heap.size n _ (i0.cell 0 rfl) i0.lt (hm.later b0) hl).mono ?_
  rintro e w1 ⟨rfl, hb⟩
  go_wp2
  go_ret
  exact ⟨rfl, b0.trans (hb.mono b0.size)⟩

end Go.Proofs.YtfmhkicncgccjaaGreatDoor

/- What the program's slices.Equal and sameWant answer. -/
namespace Go.Proofs.YtfmhkicncgccjaaGreatDoor
open Go.RowKit Go.Sort
set_option linter.unusedSimpArgs false
set_option linter.unusedVariables false

set_option maxHeartbeats 400000 in
theorem equalS_any (a b : Option Addr) (ca cb : Nat) (xs ys : List ByteArray) (w : World) (hx : StrsAt w a xs) (hy : StrsAt w b ys) (lx : xs.length ≤ maxLen) :
    Calls Tryz.prog 156 #[.slice a xs.length ca, .slice b ys.length cb] w fun e w' => e = .returned (.bool (eqSS xs ys)) ∧ Below w.heap.size w w' := by
  unfold maxLen at lx
  by_cases hlen : xs.length = ys.length
  · have hl1 : ((xs.length : Int) != (ys.length : Int)) = false := by simp [hlen]
    go_enter Tryz.func156, Tryz.ntmps156
    go_wp2
    go_loopw [5, 13] (fun _ i wr => ∃ (k : Nat), k ≤ xs.length ∧ i = .int .i64 k ∧ allTo k (fun i => eqS (gs xs i) (gs ys i)) = true ∧ Below w.heap.size w wr) (fun _ i _ => xs.length - (intOf i).toNat)
    case atStart => exact ⟨0, Nat.zero_le _, rfl, rfl, Below.refl _ _⟩
    case round =>
      obtain ⟨k, hk, rfl, hall, hbel⟩ := hrel
      clear hl1
      by_cases hlt : k < xs.length
      · obtain ⟨b1, o1, ha1, hb1, hc1⟩ := (hx.later hbel).at hlt
        obtain ⟨b2, o2, ha2, hb2, hc2⟩ := (hy.later hbel).at (k := k) (by omega)
        subst ha1 ha2
        have hlt2 : (k : Int) < ys.length := by omega
        have HL : Hid (xs.length = ys.length) := hlen
        clear hlen
        cases hq : eqS (gs xs k) (gs ys k) with
        | true =>
          have hq' : ((gs xs k).toList == (gs ys k).toList) = true := hq
          go_wp2
          go_quiet (fail)
          go_wp2
          go_roundw
          case rel => exact ⟨k + 1, by omega, by go_num, allTo_succ hall hq, below_drewN hbel _⟩
          case measure => simp [intOf]; omega
        | false =>
          have hq' : ((gs xs k).toList == (gs ys k).toList) = false := hq
          go_wp2
          go_quiet (fail)
          go_wp2
          go_ret
          exact ⟨ret_bool (by unfold eqSS; rw [allTo_false k hlt hq, Bool.and_false]), below_drewN hbel _⟩
      · go_wp2
        go_ret
        have : k = xs.length := by omega
        subst this
        exact ⟨ret_bool (by unfold eqSS; rw [hall]; simp [hlen]), hbel⟩
  · have hl1 : ((xs.length : Int) != (ys.length : Int)) = true := by simp; omega
    go_enter Tryz.func156, Tryz.ntmps156
    go_wp2
    go_ret
    exact ⟨ret_bool (by unfold eqSS; simp [hlen]), Below.refl _ _⟩

set_option maxRecDepth 100000 in
set_option maxHeartbeats 2000000 in
theorem equalU_any (a b : Option Addr) (ca cb : Nat) (xs ys : List Use) (w : World) (hx : UsesAt w a xs) (hy : UsesAt w b ys) (lx : xs.length ≤ maxLen) :
    Calls Tryz.prog 157 #[.slice a xs.length ca, .slice b ys.length cb] w fun e w' => e = .returned (.bool (eqUU xs ys)) ∧ Below w.heap.size w w' := by
  unfold maxLen at lx
  by_cases hlen : xs.length = ys.length
  · have hl1 : ((xs.length : Int) != (ys.length : Int)) = false := by simp [hlen]
    go_enter Tryz.func157, Tryz.ntmps157
    go_wp2
    go_loopw [5, 13] (fun _ i wr => ∃ (k : Nat), k ≤ xs.length ∧ i = .int .i64 k ∧ allTo k (fun i => eqU (gu xs i) (gu ys i)) = true ∧ Below w.heap.size w wr) (fun _ i _ => xs.length - (intOf i).toNat)
    case atStart => exact ⟨0, Nat.zero_le _, rfl, rfl, Below.refl _ _⟩
    case round wr =>
      obtain ⟨k, hk, rfl, hall, hbel⟩ := hrel
      clear hl1
      by_cases hlt : k < xs.length
      · obtain ⟨b1, o1, ha1, hb1, hc10, hc11, hc12⟩ := (hx.later hbel).at hlt
        obtain ⟨b2, o2, ha2, hb2, hc20, hc21, hc22⟩ := (hy.later hbel).at (k := k) (by omega)
        subst ha1 ha2
        have hlt2 : (k : Int) < ys.length := by omega
        have HL : Hid (xs.length = ys.length) := hlen
        clear hlen
        cases h1 : eqS (gu xs k).name (gu ys k).name with
        | false =>
          have h1' : ((gu xs k).name.toList == (gu ys k).name.toList) = false := h1
          have HQ : Hid (eqU (gu xs k) (gu ys k) = false) := (by simp [eqU, h1] : eqU (gu xs k) (gu ys k) = false)
          go_wp2
          go_quiet (fail)
          go_wp2
          go_ret
          exact ⟨ret_bool (by unfold eqUU; rw [allTo_false k hlt HQ.out, Bool.and_false]), below_drewN hbel _⟩
        | true =>
          have h1' : ((gu xs k).name.toList == (gu ys k).name.toList) = true := h1
          cases h2 : (gu xs k).role == (gu ys k).role with
          | false =>
            have HQ : Hid (eqU (gu xs k) (gu ys k) = false) := (by simp [eqU, h2] : eqU (gu xs k) (gu ys k) = false)
            go_wp2
            go_quiet (fail)
            go_wp2
            go_ret
            exact ⟨ret_bool (by unfold eqUU; rw [allTo_false k hlt HQ.out, Bool.and_false]), below_drewN hbel _⟩
          | true =>
            cases h3 : (gu xs k).amount == (gu ys k).amount with
            | false =>
              have HQ : Hid (eqU (gu xs k) (gu ys k) = false) := (by simp [eqU, h3] : eqU (gu xs k) (gu ys k) = false)
              go_wp2
              go_quiet (fail)
              go_wp2
              go_ret
              exact ⟨ret_bool (by unfold eqUU; rw [allTo_false k hlt HQ.out, Bool.and_false]), below_drewN hbel _⟩
            | true =>
              have HQ : Hid (eqU (gu xs k) (gu ys k) = true) := (by unfold eqU; rw [h1, h2, h3]; rfl : eqU (gu xs k) (gu ys k) = true)
              go_wp2
              go_quiet (fail)
              go_wp2
              go_roundw
              case rel => exact ⟨k + 1, by omega, by go_num, allTo_succ hall HQ.out, below_drewN hbel _⟩
              case measure => simp [intOf]; omega
      · go_wp2
        go_ret
        have : k = xs.length := by omega
        subst this
        exact ⟨ret_bool (by unfold eqUU; rw [hall]; simp [hlen]), hbel⟩
  · have hl1 : ((xs.length : Int) != (ys.length : Int)) = true := by simp; omega
    go_enter Tryz.func157, Tryz.ntmps157
    go_wp2
    go_ret
    exact ⟨ret_bool (by unfold eqUU; simp [hlen]), Below.refl _ _⟩

end Go.Proofs.YtfmhkicncgccjaaGreatDoor

/- What the program's sameWant, reasonIf, about, lookAtBook, lookAtWant answer. -/
namespace Go.Proofs.YtfmhkicncgccjaaGreatDoor
open Go.RowKit Go.Sort
set_option linter.unusedSimpArgs false
set_option linter.unusedVariables false

set_option maxRecDepth 100000 in
set_option maxHeartbeats 4000000 in
theorem sameWant_any (x y : Want) (a2 a3 a4 a5 : Option Addr) (c2 c3 c4 c5 : Nat) (e2 e3 e4 e5 : Option Addr) (d2 d3 d4 d5 : Nat) (w : World) (hx : WantIn w x a2 a3 a4 a5) (hy : WantIn w y e2 e3 e4 e5) (fx : WantFit x) :
    Calls Tryz.prog 127 #[wantW x a2 a3 a4 a5 c2 c3 c4 c5, wantW y e2 e3 e4 e5 d2 d3 d4 d5] w fun e w' => e = .returned (.bool (sameB x y)) ∧ Below w.heap.size w w' := by
  have hl3 := fx.usesLen
  unfold maxLen at hl3
  unfold wantW
  have b0 : Below w.heap.size w ((w.alloc (.cells #[.int .i64 x.number, .int .i64 x.kind, .slice a2 x.stuffs.length c2, .slice a3 x.uses.length c3, .slice a4 x.opens.length c4, .slice a5 x.shuts.length c5] 42)).alloc (.cells #[.int .i64 y.number, .int .i64 y.kind, .slice e2 y.stuffs.length d2, .slice e3 y.uses.length d3, .slice e4 y.opens.length d4, .slice e5 y.shuts.length d5] 42)) :=
    ((Below.refl _ _).alloc (Nat.le_refl _) _).alloc (by simp) _
  have i0 := (Row.new w 42 [.int .i64 x.number, .int .i64 x.kind, .slice a2 x.stuffs.length c2, .slice a3 x.uses.length c3, .slice a4 x.opens.length c4, .slice a5 x.shuts.length c5]).alloc (.cells #[.int .i64 y.number, .int .i64 y.kind, .slice e2 y.stuffs.length d2, .slice e3 y.uses.length d3, .slice e4 y.opens.length d4, .slice e5 y.shuts.length d5] 42)
  have o0 := Row.new (w.alloc (.cells #[.int .i64 x.number, .int .i64 x.kind, .slice a2 x.stuffs.length c2, .slice a3 x.uses.length c3, .slice a4 x.opens.length c4, .slice a5 x.shuts.length c5] 42)) 42 [.int .i64 y.number, .int .i64 y.kind, .slice e2 y.stuffs.length d2, .slice e3 y.uses.length d3, .slice e4 y.opens.length d4, .slice e5 y.shuts.length d5]
  have hsz : (w.alloc (.cells #[.int .i64 x.number, .int .i64 x.kind, .slice a2 x.stuffs.length c2, .slice a3 x.uses.length c3, .slice a4 x.opens.length c4, .slice a5 x.shuts.length c5] 42)).heap.size = w.heap.size + 1 := by simp
  rw [hsz] at o0
  clear hsz
  by_cases n0 : x.number = y.number
  case neg =>
    have g0 : (x.number == y.number) = false := by simp [n0]
    have HN : Hid (¬ x.number = y.number) := n0
    clear n0
    go_enter Tryz.func127, Tryz.ntmps127
    go_wp2
    go_ret
    exact ⟨ret_bool (by simp [sameB, HN.out]), b0⟩
  have g0 : (x.number == y.number) = true := by simp [n0]
  have HN : Hid (x.number = y.number) := n0
  clear n0
  by_cases n1 : x.kind = y.kind
  case neg =>
    have g1 : (x.kind == y.kind) = false := by simp [n1]
    have HK : Hid (¬ x.kind = y.kind) := n1
    clear n1
    go_enter Tryz.func127, Tryz.ntmps127
    go_wp2
    go_ret
    exact ⟨ret_bool (by simp [sameB, HK.out]), b0⟩
  have g1 : (x.kind == y.kind) = true := by simp [n1]
  have HK : Hid (x.kind = y.kind) := n1
  clear n1
  go_enter Tryz.func127, Tryz.ntmps127
  have p := i0.cell 2 rfl
  have q := o0.cell 2 rfl
  go_wp2_with fail
  refine (equalS_any a2 e2 c2 d2 x.stuffs y.stuffs _ (hx.later b0).stuffs (hy.later b0).stuffs fx.stuffs.1).mono ?_
  rintro e w1 ⟨rfl, hb⟩
  have b1 := b0.trans (hb.mono b0.size)
  have i1 := i0.later hb
  have o1 := o0.later hb
  clear b0 i0 o0 hb p q
  cases h0 : eqSS x.stuffs y.stuffs with
  | false =>
    go_wp2
    go_ret
    exact ⟨ret_bool (by simp [sameB, h0]), b1⟩
  | true =>
  have p := i1.cell 3 rfl
  have q := o1.cell 3 rfl
  go_wp2_with fail
  refine (equalU_any a3 e3 c3 d3 x.uses y.uses _ (hx.later b1).uses (hy.later b1).uses fx.usesLen).mono ?_
  rintro e w2 ⟨rfl, hb⟩
  have b2 := b1.trans (hb.mono b1.size)
  have i2 := i1.later hb
  have o2 := o1.later hb
  clear b1 i1 o1 hb p q
  cases h1 : eqUU x.uses y.uses with
  | false =>
    go_wp2
    go_ret
    exact ⟨ret_bool (by simp [sameB, h1]), b2⟩
  | true =>
  have p := i2.cell 4 rfl
  have q := o2.cell 4 rfl
  go_wp2_with fail
  refine (equalS_any a4 e4 c4 d4 x.opens y.opens _ (hx.later b2).opens (hy.later b2).opens fx.opens.1).mono ?_
  rintro e w3 ⟨rfl, hb⟩
  have b3 := b2.trans (hb.mono b2.size)
  have i3 := i2.later hb
  have o3 := o2.later hb
  clear b2 i2 o2 hb p q
  cases h2 : eqSS x.opens y.opens with
  | false =>
    go_wp2
    go_ret
    exact ⟨ret_bool (by simp [sameB, h2]), b3⟩
  | true =>
  have p := i3.cell 5 rfl
  have q := o3.cell 5 rfl
  go_wp2_with fail
  refine (equalS_any a5 e5 c5 d5 x.shuts y.shuts _ (hx.later b3).shuts (hy.later b3).shuts fx.shuts.1).mono ?_
  rintro e w4 ⟨rfl, hb⟩
  have b4 := b3.trans (hb.mono b3.size)
  have i4 := i3.later hb
  have o4 := o3.later hb
  clear b3 i3 o3 hb p q
  cases h3 : eqSS x.shuts y.shuts with
  | false =>
    go_wp2
    go_ret
    exact ⟨ret_bool (by simp [sameB, h3]), b4⟩
  | true =>
    go_wp2
    go_ret
    exact ⟨ret_bool (by simp [sameB, HN.out, HK.out, h0, h1, h2, h3]), b4⟩

/-- A reason, if it holds. -/
def whyV (b : Bool) (c : Int) : Value := if b then reasonV c else .nilIface

theorem reasonIf_any (b : Bool) (c : Int) (w : World) : Calls Tryz.prog 122 #[.bool b, .int .i64 c] w fun e w' => e = .returned (whyV b c) ∧ w = w' := by
  cases b with
  | true =>
    go_enter Tryz.func122, Tryz.ntmps122
    go_wp2
    go_ret
    exact ⟨rfl, rfl⟩
  | false =>
    go_enter Tryz.func122, Tryz.ntmps122
    go_wp2
    go_ret
    exact ⟨rfl, rfl⟩

theorem about_nil (s : ByteArray) (w : World) : Calls Tryz.prog 80 #[.string s, .nilIface] w fun e w' => e = .returned .nilIface ∧ w = w' := by
  go_enter Tryz.func80, Tryz.ntmps80
  go_wp2
  go_ret
  exact ⟨rfl, rfl⟩
theorem about_some (s : ByteArray) (t : TypeId) (v : Value) (w : World) : Calls Tryz.prog 80 #[.string s, .iface t v] w fun e w' => e = .returned (aboutV s (.iface t v)) ∧ w = w' := by
  go_enter Tryz.func80, Tryz.ntmps80
  go_wp2
  go_ret
  exact ⟨rfl, rfl⟩

set_option maxHeartbeats 2000000 in
theorem lookAtBook_any (x : Book) (af ap av aq : Option Addr) (cf cp cv cq : Nat) (y : Want) (a2 a3 a4 a5 : Option Addr) (c2 c3 c4 c5 : Nat) (w : World) (hx : BookIn w x af ap av aq) (fx : BookFit x) :
    Calls Tryz.prog 106 #[bookV x af ap av aq cf cp cv cq, wantW y a2 a3 a4 a5 c2 c3 c4 c5] w fun e w' => e = .returned (whyV (!bookB x) 1) ∧ Below w.heap.size w w' := by
  have b0 : Below w.heap.size w ((w.alloc (.cells (bookL x af ap av aq cf cp cv cq).toArray 38)).alloc (.cells (wantL y a2 a3 a4 a5 c2 c3 c4 c5).toArray 42)) :=
    ((Below.refl _ _).alloc (Nat.le_refl _) _).alloc (by simp) _
  unfold bookV wantW
  go_enter Tryz.func106, Tryz.ntmps106
  go_wp2_with fail
  refine (implBookOk_any x af ap av aq cf cp cv cq _ (hx.later b0) fx).mono ?_
  rintro e w1 ⟨rfl, hb⟩
  have b1 := b0.trans (hb.mono b0.size)
  go_wp2_with fail
  refine (reasonIf_any (!bookB x) 1 _).mono ?_
  rintro e w2 ⟨rfl, rfl⟩
  go_wp2
  go_ret
  exact ⟨rfl, b1⟩

set_option maxHeartbeats 2000000 in
theorem lookAtWant_any (x : Book) (af ap av aq : Option Addr) (cf cp cv cq : Nat) (y : Want) (a2 a3 a4 a5 : Option Addr) (c2 c3 c4 c5 : Nat) (w : World) (hx : BookIn w x af ap av aq) (fx : BookFit x) (hy : WantIn w y a2 a3 a4 a5) (fy : WantFit y) :
    Calls Tryz.prog 107 #[bookV x af ap av aq cf cp cv cq, wantW y a2 a3 a4 a5 c2 c3 c4 c5] w fun e w' => e = .returned (whyV (!(wantB y && knowsB x y)) 2) ∧ Below w.heap.size w w' := by
  have b0 : Below w.heap.size w ((w.alloc (.cells (bookL x af ap av aq cf cp cv cq).toArray 38)).alloc (.cells (wantL y a2 a3 a4 a5 c2 c3 c4 c5).toArray 42)) :=
    ((Below.refl _ _).alloc (Nat.le_refl _) _).alloc (by simp) _
  have i0 : Row ((w.alloc (.cells (bookL x af ap av aq cf cp cv cq).toArray 38)).alloc (.cells (wantL y a2 a3 a4 a5 c2 c3 c4 c5).toArray 42)) w.heap.size 38 (bookL x af ap av aq cf cp cv cq) := (Row.new w 38 (bookL x af ap av aq cf cp cv cq)).alloc _
  have o0 : Row ((w.alloc (.cells (bookL x af ap av aq cf cp cv cq).toArray 38)).alloc (.cells (wantL y a2 a3 a4 a5 c2 c3 c4 c5).toArray 42)) (w.heap.size + 1) 42 (wantL y a2 a3 a4 a5 c2 c3 c4 c5) := by
    have := Row.new (w.alloc (.cells (bookL x af ap av aq cf cp cv cq).toArray 38)) 42 (wantL y a2 a3 a4 a5 c2 c3 c4 c5)
    simpa using this
  unfold bookV wantW
  go_enter Tryz.func107, Tryz.ntmps107
  go_wp2_with fail
  refine (implWantOk_any y a2 a3 a4 a5 c2 c3 c4 c5 _ (hy.later b0) fy).mono ?_
  rintro e w1 ⟨rfl, hb⟩
  have b1 := b0.trans (hb.mono b0.size)
  have i1 := i0.later hb
  have o1 := o0.later hb
  clear b0 i0 o0 hb
  cases hq : wantB y with
  | false =>
    go_wp2_with fail
    refine (reasonIf_any true 2 _).mono ?_
    rintro e w2 ⟨rfl, rfl⟩
    go_wp2
    go_ret
    exact ⟨by simp [hq], b1⟩
  | true =>
    have y0 := i1.cell 0 rfl
    have y1 := i1.cell 1 rfl
    have y2 := i1.cell 2 rfl
    have y3 := i1.cell 3 rfl
    have y4 := i1.cell 4 rfl
    have z0 := o1.cell 0 rfl
    have z1 := o1.cell 1 rfl
    have z2 := o1.cell 2 rfl
    have z3 := o1.cell 3 rfl
    have z4 := o1.cell 4 rfl
    have z5 := o1.cell 5 rfl
    go_wp2_with fail
    refine (knows_any x af ap av aq cf cp cv cq y a2 a3 a4 a5 c2 c3 c4 c5 _ (hx.later b1) (hy.later b1) fx fy).mono ?_
    rintro e w2 ⟨rfl, hb⟩
    have b2 := b1.trans (hb.mono b1.size)
    clear y0 y1 y2 y3 y4 z0 z1 z2 z3 z4 z5 i1 o1
    go_wp2_with fail
    refine (reasonIf_any (!knowsB x y) 2 _).mono ?_
    rintro e w3 ⟨rfl, rfl⟩
    go_wp2
    go_ret
    exact ⟨by simp [hq], b2⟩

end Go.Proofs.YtfmhkicncgccjaaGreatDoor

/- What the program's lookAtNumber, lookAtStuffs and lookAtParts answer. -/
namespace Go.Proofs.YtfmhkicncgccjaaGreatDoor
open Go.RowKit Go.Sort Go.Maps
set_option linter.unusedSimpArgs false
set_option linter.unusedVariables false

/-- What the look at the number finds. -/
def numW (x : Book) (y : Want) : Value :=
  if 0 ≤ partI x.parts y.number then (if sameB (gq x.parts (partI x.parts y.number).toNat).want y then reasonV 0 else reasonV 3) else whyV (decide (y.number ≤ x.seen)) 4
theorem numW_at {x : Book} {y : Want} {j : Nat} (h : partI x.parts y.number = (j : Int)) : numW x y = if sameB (gq x.parts j).want y then reasonV 0 else reasonV 3 := by
  unfold numW; rw [h]; simp
theorem numW_none {x : Book} {y : Want} (h : partI x.parts y.number = -1) : numW x y = whyV (decide (y.number ≤ x.seen)) 4 := by
  unfold numW; rw [h]; simp

set_option maxRecDepth 100000 in
set_option maxHeartbeats 4000000 in
theorem lookAtNumber_any (x : Book) (af ap av aq : Option Addr) (cf cp cv cq : Nat) (y : Want) (a2 a3 a4 a5 : Option Addr) (c2 c3 c4 c5 : Nat) (w : World) (hx : BookIn w x af ap av aq) (fx : BookFit x) (hy : WantIn w y a2 a3 a4 a5) (fy : WantFit y) :
    Calls Tryz.prog 108 #[bookV x af ap av aq cf cp cv cq, wantW y a2 a3 a4 a5 c2 c3 c4 c5] w fun e w' => e = .returned (numW x y) ∧ Below w.heap.size w w' := by
  have hlp := fx.parts.len
  unfold maxLen at hlp
  have b0 : Below w.heap.size w ((w.alloc (.cells (bookL x af ap av aq cf cp cv cq).toArray 38)).alloc (.cells (wantL y a2 a3 a4 a5 c2 c3 c4 c5).toArray 42)) :=
    ((Below.refl _ _).alloc (Nat.le_refl _) _).alloc (by simp) _
  have i0 : Row ((w.alloc (.cells (bookL x af ap av aq cf cp cv cq).toArray 38)).alloc (.cells (wantL y a2 a3 a4 a5 c2 c3 c4 c5).toArray 42)) w.heap.size 38 (bookL x af ap av aq cf cp cv cq) := (Row.new w 38 (bookL x af ap av aq cf cp cv cq)).alloc _
  have o0 : Row ((w.alloc (.cells (bookL x af ap av aq cf cp cv cq).toArray 38)).alloc (.cells (wantL y a2 a3 a4 a5 c2 c3 c4 c5).toArray 42)) (w.heap.size + 1) 42 (wantL y a2 a3 a4 a5 c2 c3 c4 c5) := by
    have := Row.new (w.alloc (.cells (bookL x af ap av aq cf cp cv cq).toArray 38)) 42 (wantL y a2 a3 a4 a5 c2 c3 c4 c5)
    simpa using this
  unfold bookV wantW
  go_enter Tryz.func108, Tryz.ntmps108
  go_wp2_with fail
  refine (partAt_any aq cq x.parts y.number _ (hx.later b0).parts fx.parts.len).mono ?_
  rintro e w4 ⟨rfl, hb⟩
  have b4 := b0.trans (hb.mono b0.size)
  have i4 := i0.later hb
  have o4 := o0.later hb
  clear b0 i0 o0 hb
  rcases partI_cases x.parts y.number with ⟨hpn, -⟩ | ⟨j, hj, hpj, -, -⟩
  case inr =>
    have HP : Hid (numW x y = if sameB (gq x.parts j).want y then reasonV 0 else reasonV 3) := numW_at hpj
    rw [hpj]
    obtain ⟨b, o, e2, e3, e4, e5, d2, d3, d4, d5, ha, hb, hc0, hc1, hc2, hc3, hc4, hc5, hc6, hst⟩ := (hx.later b4).parts.at hj
    have hfp := fx.parts.wants _ (gq_mem hj)
    subst ha
    have r3 := cell_regrown (i4.cell 3 rfl)
    have s0 := cell_regrown (o4.cell 0 rfl)
    have s1 := cell_regrown (o4.cell 1 rfl)
    have s2 := cell_regrown (o4.cell 2 rfl)
    have s3 := cell_regrown (o4.cell 3 rfl)
    have s4 := cell_regrown (o4.cell 4 rfl)
    have s5 := cell_regrown (o4.cell 5 rfl)
    have t0 := cell_regrown hc0
    have t1 := cell_regrown hc1
    have t2 := cell_regrown hc2
    have t3 := cell_regrown hc3
    have t4 := cell_regrown hc4
    have t5 := cell_regrown hc5
    have hcall := fun d os => Calls.regrown_of (w := w4) (sameWant_any (gq x.parts j).want y e2 e3 e4 e5 d2 d3 d4 d5 a2 a3 a4 a5 c2 c3 c4 c5 (grow (redrawn w4 d) os) (hst.later (below_regrown w4 d os)) (hy.later (b4.trans ((below_regrown w4 d os).mono b4.size))) hfp)
    unfold wantW at hcall
    have hj2 : (j : Int) < x.parts.length := by omega
    have hj0 : (0 : Int) ≤ j := by omega
    clear hc0 hc1 hc2 hc3 hc4 hc5 hc6 i4 o4
    cases hq : sameB (gq x.parts j).want y with
    | true =>
      rw [hq] at hcall
      go_wp2
      refine wp_region_quiet_below (by kernel_rfl) (by kernel_rfl) ?_
      repeat (first | go_big_quiet_step (with_reducible exact hcall _ _) | quiet_step (with_reducible exact hcall _ _))
      refine wpQuiet_nil ?_
      intro w5 hw'
      obtain ⟨⟨dq, osq⟩, hw''⟩ := hw'
      have b5 := b4.trans ((hw'' ▸ below_regrown w4 dq osq).mono b4.size)
      clear hw'' hcall r3 s0 s1 s2 s3 s4 s5 t0 t1 t2 t3 t4 t5
      go_wp2
      go_ret
      exact ⟨by rw [HP.out, hq]; rfl, b5⟩
    | false =>
      rw [hq] at hcall
      go_wp2
      refine wp_region_quiet_below (by kernel_rfl) (by kernel_rfl) ?_
      repeat (first | go_big_quiet_step (with_reducible exact hcall _ _) | quiet_step (with_reducible exact hcall _ _))
      refine wpQuiet_nil ?_
      intro w5 hw'
      obtain ⟨⟨dq, osq⟩, hw''⟩ := hw'
      have b5 := b4.trans ((hw'' ▸ below_regrown w4 dq osq).mono b4.size)
      clear hw'' hcall r3 s0 s1 s2 s3 s4 s5 t0 t1 t2 t3 t4 t5
      go_wp2
      go_ret
      exact ⟨by rw [HP.out, hq]; rfl, b5⟩
  case inl =>
    have HP : Hid (numW x y = whyV (decide (y.number ≤ x.seen)) 4) := numW_none hpn
    rw [hpn]
    go_wp2
    refine wp_region_quiet_below (by kernel_rfl) (by kernel_rfl) ?_
    repeat (first | go_big_quiet_step (fail) | quiet_step (fail))
    refine wpQuiet_nil ?_
    intro w5 hw'
    obtain ⟨⟨dq, osq⟩, hw''⟩ := hw'
    have hb5 : Below w4.heap.size w4 w5 := hw'' ▸ below_regrown w4 dq osq
    have z0 := (o4.later hb5).cell 0 rfl
    have y4 := (i4.later hb5).cell 4 rfl
    clear hw''
    go_wp2_with fail
    refine (reasonIf_any (decide (y.number ≤ x.seen)) 4 _).mono ?_
    rintro e w6 ⟨rfl, rfl⟩
    go_wp2
    go_ret
    exact ⟨by rw [HP.out]; rfl, b4.trans (hb5.mono b4.size)⟩

set_option maxHeartbeats 1000000 in
theorem lookAtStuffs1_any (bb : Nat) (a : Option Addr) (cap : Nat) (fs : List Foe) (x y : ByteArray) (w : World) (hc : w.cell? ⟨bb, 0, none⟩ = some (.slice a fs.length cap)) (hm : FoesAt w a fs) (hl : fs.length ≤ maxLen) :
    Calls Tryz.prog 132 #[.string x, .string y, .pointer (some ⟨bb, 0, none⟩)] w fun e w' => e = .returned (.bool (!foesB fs x y)) ∧ Below w.heap.size w w' := by
  go_enter Tryz.func132, Tryz.ntmps132
  go_wp2_with fail
  refine (areFoes_any a cap fs x y _ hm hl).mono ?_
  rintro e w1 ⟨rfl, hb⟩
  go_wp2
  go_ret
  exact ⟨ret_bool rfl, hb⟩

set_option maxHeartbeats 1000000 in
theorem everyPairL_any (bb : Nat) (af : Option Addr) (cf : Nat) (fs : List Foe) (a : Option Addr) (cap : Nat) (ss : List ByteArray) (w : World) (hcell : w.cell? ⟨bb, 0, none⟩ = some (.slice af fs.length cf)) (hm : FoesAt w af fs) (hl : fs.length ≤ maxLen)
    (hs : StrsAt w a ss) (hls : ss.length ≤ maxLen) (hcap : ss.length ≤ cap) :
    Calls Tryz.prog 131 #[.slice a ss.length cap, .func (.func 132) #[] #[.pointer (some ⟨bb, 0, none⟩)]] w fun e w' => e = .returned (.bool (pairsB fs ss)) ∧ Below w.heap.size w w' := by
  have hls' := hls
  unfold maxLen at hls'
  go_enter Tryz.func131, Tryz.ntmps131
  go_wp2
  go_loopw [5, 6, 8, 11] (fun _ _ _ i wr => ∃ (k : Nat), k ≤ ss.length ∧ i = .int .i64 k ∧ allTo k (fun i => allTo (ss.length - (i + 1)) (fun j => !foesB fs (gs ss i) (gs ss (i + 1 + j)))) = true ∧ Below w.heap.size w wr) (fun _ _ _ i _ => ss.length - (intOf i).toNat)
  case atStart => exact ⟨0, Nat.zero_le _, rfl, rfl, Below.refl _ _⟩
  case round wr =>
    obtain ⟨k, hk, rfl, hall, hbel⟩ := hrel
    by_cases hlt : k < ss.length
    · obtain ⟨b, o, ha, hb, hc⟩ := (hs.later hbel).at hlt
      subst ha
      go_wp2
      all_goals try (have hce : cap = k + 1 := (by assumption); subst hce)
      all_goals
        go_loopw [8, 21] (fun _ i wv => ∃ (j : Nat) (w2 : World), w2 = wv ∧ j ≤ ss.length - (k + 1) ∧ i = .int .i64 j ∧ allTo j (fun j => !foesB fs (gs ss k) (gs ss (k + 1 + j))) = true ∧ Below wr.heap.size wr w2) (fun _ i _ => (ss.length - (k + 1)) - (intOf i).toNat)
        case atStart => exact ⟨0, _, rfl, Nat.zero_le _, rfl, rfl, Below.refl _ _⟩
        case round =>
          obtain ⟨j, w2, rfl, hj, rfl, hallj, hb2⟩ := hrel
          have hbw2 := hbel.trans (hb2.mono hbel.size)
          by_cases hj2 : j < ss.length - (k + 1)
          · first
              | (exfalso; omega)
              | (obtain ⟨hbj, hcj⟩ := (hs.later hbw2).drop (k := k + 1) (j := j) (by omega)
                 have hpc := cell_later hbw2 hcell
                 have hj3 : (j : Int) < ((ss.length - (k + 1) : Nat) : Int) := by omega
                 go_wp2_with fail
                 refine (lookAtStuffs1_any bb af cf fs (gs ss k) (gs ss (k + 1 + j)) _ hpc (hm.later hbw2) hl).mono ?_
                 rintro e w3 ⟨rfl, hb3⟩
                 have hb4 := hb2.trans (hb3.mono hb2.size)
                 cases hq : foesB fs (gs ss k) (gs ss (k + 1 + j)) with
                 | true =>
                   go_wp2
                   go_ret
                   refine ⟨ret_bool ?_, hbel.trans (hb4.mono hbel.size)⟩
                   exact (allTo_false k hlt (allTo_false j hj2 (by rw [hq]; rfl))).symm
                 | false =>
                   go_wp2
                   go_roundw
                   case rel => exact ⟨j + 1, _, rfl, by omega, by go_num, allTo_succ hallj (by rw [hq]; rfl), hb4⟩
                   case measure => simp [intOf]; omega)
          · have hjj : j = ss.length - (k + 1) := by omega
            have hin : allTo (ss.length - (k + 1)) (fun j => !foesB fs (gs ss k) (gs ss (k + 1 + j))) = true := by rw [← hjj]; exact hallj
            have HI : Hid (allTo (ss.length - (k + 1)) (fun j => !foesB fs (gs ss k) (gs ss (k + 1 + j))) = true) := hin
            clear hin hjj
            go_wp2
            go_roundw
            case rel => exact ⟨k + 1, by omega, by go_num, allTo_succ hall HI.out, hbw2⟩
            case measure => simp [intOf]; omega
    · go_wp2
      go_ret
      have : k = ss.length := by omega
      subst this
      exact ⟨ret_bool hall.symm, hbel⟩


set_option maxHeartbeats 2000000 in
theorem lookAtStuffs_any (x : Book) (af ap av aq : Option Addr) (cf cp cv cq : Nat) (y : Want) (a2 a3 a4 a5 : Option Addr) (c2 c3 c4 c5 : Nat) (w : World) (hx : BookIn w x af ap av aq) (fx : BookFit x) (hy : WantIn w y a2 a3 a4 a5) (fy : WantFit y) (hcap : y.stuffs.length ≤ c2) :
    Calls Tryz.prog 110 #[bookV x af ap av aq cf cp cv cq, wantW y a2 a3 a4 a5 c2 c3 c4 c5] w fun e w' => e = .returned (whyV (!pairsB x.foes y.stuffs) 8) ∧ Below w.heap.size w w' := by
  have b0 : Below w.heap.size w ((w.alloc (.cells (bookL x af ap av aq cf cp cv cq).toArray 38)).alloc (.cells (wantL y a2 a3 a4 a5 c2 c3 c4 c5).toArray 42)) :=
    ((Below.refl _ _).alloc (Nat.le_refl _) _).alloc (by simp) _
  have i0 : Row ((w.alloc (.cells (bookL x af ap av aq cf cp cv cq).toArray 38)).alloc (.cells (wantL y a2 a3 a4 a5 c2 c3 c4 c5).toArray 42)) w.heap.size 38 (bookL x af ap av aq cf cp cv cq) := (Row.new w 38 (bookL x af ap av aq cf cp cv cq)).alloc _
  have o0 : Row ((w.alloc (.cells (bookL x af ap av aq cf cp cv cq).toArray 38)).alloc (.cells (wantL y a2 a3 a4 a5 c2 c3 c4 c5).toArray 42)) (w.heap.size + 1) 42 (wantL y a2 a3 a4 a5 c2 c3 c4 c5) := by
    have := Row.new (w.alloc (.cells (bookL x af ap av aq cf cp cv cq).toArray 38)) 42 (wantL y a2 a3 a4 a5 c2 c3 c4 c5)
    simpa using this
  unfold bookV wantW
  go_enter Tryz.func110, Tryz.ntmps110
  go_wp2_with fail
  refine (everyPairL_any w.heap.size af cf x.foes a2 c2 y.stuffs _ (i0.cell 0 rfl) (hx.later b0).foes fx.foes.len (hy.later b0).stuffs fy.stuffs.1 hcap).mono ?_
  rintro e w1 ⟨rfl, hb⟩
  have b1 := b0.trans (hb.mono b0.size)
  go_wp2_with fail
  refine (reasonIf_any (!pairsB x.foes y.stuffs) 8 _).mono ?_
  rintro e w2 ⟨rfl, rfl⟩
  go_wp2
  go_ret
  exact ⟨rfl, b1⟩

end Go.Proofs.YtfmhkicncgccjaaGreatDoor

/- What the program's lookAtParts answers. -/
namespace Go.Proofs.YtfmhkicncgccjaaGreatDoor
open Go.RowKit Go.Sort Go.Maps
set_option linter.unusedSimpArgs false
set_option linter.unusedVariables false
set_option maxRecDepth 100000

/-- What the look at the parts finds. -/
def partsW (x : Book) (y : Want) : Value :=
  if 6 ≤ x.parts.length then reasonV 5 else if usedB (countsTo x x.parts.length) y then reasonV 6 else whyV (crossI (countsTo x x.parts.length) y) 7

set_option maxHeartbeats 4000000 in
theorem lookAtParts_any (x : Book) (af ap av aq : Option Addr) (cf cp cv cq : Nat) (y : Want) (a2 a3 a4 a5 : Option Addr) (c2 c3 c4 c5 : Nat) (w : World) (hx : BookIn w x af ap av aq) (fx : BookFit x) (hy : WantIn w y a2 a3 a4 a5) (fy : WantFit y)
    (h6 : x.parts.length ≤ 6) (hlen : ∀ k, k < x.parts.length → (gq x.parts k).want.uses.length ≤ 20 ∧ (gq x.parts k).want.opens.length ≤ 20 ∧ (gq x.parts k).want.shuts.length ≤ 20) :
    Calls Tryz.prog 109 #[bookV x af ap av aq cf cp cv cq, wantW y a2 a3 a4 a5 c2 c3 c4 c5] w fun e w' => e = .returned (partsW x y) ∧ Below w.heap.size w w' := by
  have hmm := @run_makeMap Tryz.prog
  have b0 : Below w.heap.size w ((w.alloc (.cells (bookL x af ap av aq cf cp cv cq).toArray 38)).alloc (.cells (wantL y a2 a3 a4 a5 c2 c3 c4 c5).toArray 42)) := ((Below.refl _ _).alloc (Nat.le_refl _) _).alloc (by simp) _
  have hu0 : UsedIn (((w.alloc (.cells (bookL x af ap av aq cf cp cv cq).toArray 38)).alloc (.cells (wantL y a2 a3 a4 a5 c2 c3 c4 c5).toArray 42)).alloc (.map #[] 0)) (w.heap.size + 1 + 1) 0 (fun _ _ => 0) := by
    have := UsedIn.made ((w.alloc (.cells (bookL x af ap av aq cf cp cv cq).toArray 38)).alloc (.cells (wantL y a2 a3 a4 a5 c2 c3 c4 c5).toArray 42))
    simpa using this
  have i0 : Row ((w.alloc (.cells (bookL x af ap av aq cf cp cv cq).toArray 38)).alloc (.cells (wantL y a2 a3 a4 a5 c2 c3 c4 c5).toArray 42)) w.heap.size 38 (bookL x af ap av aq cf cp cv cq) := (Row.new w 38 (bookL x af ap av aq cf cp cv cq)).alloc _
  have o0 : Row ((w.alloc (.cells (bookL x af ap av aq cf cp cv cq).toArray 38)).alloc (.cells (wantL y a2 a3 a4 a5 c2 c3 c4 c5).toArray 42)) (w.heap.size + 1) 42 (wantL y a2 a3 a4 a5 c2 c3 c4 c5) := by
    have := Row.new (w.alloc (.cells (bookL x af ap av aq cf cp cv cq).toArray 38)) 42 (wantL y a2 a3 a4 a5 c2 c3 c4 c5)
    simpa using this
  have hsz0 : ((w.alloc (.cells (bookL x af ap av aq cf cp cv cq).toArray 38)).alloc (.cells (wantL y a2 a3 a4 a5 c2 c3 c4 c5).toArray 42)).heap.size = w.heap.size + 1 + 1 := by simp
  unfold bookV wantW
  go_enter Tryz.func109, Tryz.ntmps109
  go_wp2
  go_loopw [7, 12] (fun _ i wr => ∃ (k n : Nat), k ≤ x.parts.length ∧ i = .int .i64 k ∧ n ≤ 60 * k ∧ UsedIn wr (w.heap.size + 1 + 1) n (countsTo x k) ∧ (∀ y m, countsTo x k y m ≤ n) ∧ Below ((w.alloc (.cells (bookL x af ap av aq cf cp cv cq).toArray 38)).alloc (.cells (wantL y a2 a3 a4 a5 c2 c3 c4 c5).toArray 42)).heap.size ((w.alloc (.cells (bookL x af ap av aq cf cp cv cq).toArray 38)).alloc (.cells (wantL y a2 a3 a4 a5 c2 c3 c4 c5).toArray 42)) wr) (fun _ i _ => x.parts.length - (intOf i).toNat)
  case atStart => exact ⟨0, 0, Nat.zero_le _, rfl, Nat.zero_le _, hu0, fun _ _ => Nat.le_refl _, (Below.refl _ _).alloc (Nat.le_refl _) _⟩
  case round wr =>
    clear hu0
    obtain ⟨k, n, hk, rfl, hn, hu, hle, hbel⟩ := hrel
    have hbw := b0.trans (hbel.mono b0.size)
    by_cases hlt : k < x.parts.length
    · obtain ⟨b, o, e2, e3, e4, e5, d2, d3, d4, d5, ha, hb, hc0, hc1, hc2, hc3, hc4, hc5, hc6, hst⟩ := hx.parts.at hlt
      have hfp := fx.parts.wants _ (gq_mem hlt)
      have hd0 := cellKept hbw hc0
      have hd1 := cellKept hbw hc1
      have hd2 := cellKept hbw hc2
      have hd3 := cellKept hbw hc3
      have hd4 := cellKept hbw hc4
      have hd5 := cellKept hbw hc5
      have hd6 := cellKept hbw hc6
      have hb' : b < wr.heap.size := Nat.lt_of_lt_of_le hb hbw.size
      have hba : Below wr.heap.size wr (wr.alloc (.cells #[.int .i64 (gq x.parts k).want.number, .int .i64 (gq x.parts k).want.kind, .slice e2 (gq x.parts k).want.stuffs.length d2, .slice e3 (gq x.parts k).want.uses.length d3, .slice e4 (gq x.parts k).want.opens.length d4, .slice e5 (gq x.parts k).want.shuts.length d5, .bool (gq x.parts k).stopped] 60)) := (Below.refl _ _).alloc (Nat.le_refl _) _
      have hbela := hbel.trans (hba.mono hbel.size)
      have hua := hu.later hba
      have hl := hlen k hlt
      have hstA := hst.later b0
      subst ha
      go_wp2_with fail
      refine (addUsed_any (w.heap.size + 1 + 1) n (countsTo x k) (gq x.parts k).want e2 e3 e4 e5 d2 d3 d4 d5 _ _ hbela (by rw [hsz0]; exact Nat.le_refl _) hua (by omega) hle hl.1 hl.2.1 hl.2.2 hstA hfp).mono ?_
      rintro e w3 ⟨rfl, hbw3, hu3⟩
      go_wp2
      go_roundw
      case rel => exact ⟨k + 1, n + (gq x.parts k).want.uses.length + (gq x.parts k).want.opens.length + (gq x.parts k).want.shuts.length, by omega, by go_num, by omega, hu3, bumps_le (bumps_le (bumps_le hle _ _ _) _ _ _) _ _ _, hbw3⟩
      case measure => simp [intOf]; omega
    · have hkk : k = x.parts.length := by omega
      subst hkk
      have i3 := i0.later hbel
      have o3 := o0.later hbel
      clear hlt hk hle hn
      have y3 := i3.cell 3 rfl
      by_cases hmp : (6 : Int) ≤ x.parts.length
      · go_wp2
        go_ret
        exact ⟨by unfold partsW; rw [if_pos (by omega)]; rfl, hbw⟩
      have HP : Hid (partsW x y = if usedB (countsTo x x.parts.length) y then reasonV 6 else whyV (crossI (countsTo x x.parts.length) y) 7) := (by unfold partsW; rw [if_neg (by omega)] : partsW x y = if usedB (countsTo x x.parts.length) y then reasonV 6 else whyV (crossI (countsTo x x.parts.length) y) 7)
      have z0 := o3.cell 0 rfl
      have z1 := o3.cell 1 rfl
      have z2 := o3.cell 2 rfl
      have z3 := o3.cell 3 rfl
      have z4 := o3.cell 4 rfl
      have z5 := o3.cell 5 rfl
      go_wp2_with fail
      refine (usesPlaceOf_any (w.heap.size + 1 + 1) n (countsTo x x.parts.length) y a2 a3 a4 a5 c2 c3 c4 c5 _ hu (hy.later hbw) fy).mono ?_
      rintro e w1 ⟨rfl, hb1⟩
      have o4 := o3.later hb1
      have hu1 := hu.later hb1
      have hbw1 := hbw.trans (hb1.mono hbw.size)
      clear z0 z1 z2 z3 z4 z5 i3 o3 hu hbw hb1 y3
      cases hq1 : anyTo y.uses.length (fun i => decide (0 < countsTo x x.parts.length 0 (gu y.uses i).name)) with
      | true =>
        go_wp2
        go_ret
        exact ⟨by rw [HP.out, show usedB (countsTo x x.parts.length) y = true from hq1]; rfl, hbw1⟩
      | false =>
      have z0 := o4.cell 0 rfl
      have z1 := o4.cell 1 rfl
      have z2 := o4.cell 2 rfl
      have z3 := o4.cell 3 rfl
      have z4 := o4.cell 4 rfl
      have z5 := o4.cell 5 rfl
      go_wp2_with fail
      refine (crosses_any (w.heap.size + 1 + 1) n (countsTo x x.parts.length) y a2 a3 a4 a5 c2 c3 c4 c5 _ hu1 (hy.later hbw1) fy).mono ?_
      rintro e w2 ⟨rfl, hb2⟩
      have hbw2 := hbw1.trans (hb2.mono hbw1.size)
      go_wp2_with fail
      refine (reasonIf_any (crossI (countsTo x x.parts.length) y) 7 _).mono ?_
      rintro e w3 ⟨rfl, rfl⟩
      go_wp2
      go_ret
      exact ⟨by rw [HP.out, show usedB (countsTo x x.parts.length) y = false from hq1]; rfl, hbw2⟩

end Go.Proofs.YtfmhkicncgccjaaGreatDoor
