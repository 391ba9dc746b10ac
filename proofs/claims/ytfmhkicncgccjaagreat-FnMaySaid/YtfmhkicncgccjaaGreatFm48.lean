/- Joined: DrV. -/
import Derived.Deep.QuietTactic
import Derived.Test.YtfmhkicncgccjaaGreatFm35
import Derived.Test.YtfmhkicncgccjaaGreatFm47
import Derived.Test.YtfmhkicncgccjaaGreatFm10
/- What the law's own comparing functions answer. -/
namespace Go.Proofs.YtfmhkicncgccjaaGreat
open Go.RowKit Go.Sort
set_option linter.unusedSimpArgs false
set_option linter.unusedVariables false

set_option maxHeartbeats 400000 in
theorem wHas_any (a : Option Addr) (cap : Nat) (ss : List ByteArray) (s : ByteArray) (w : World) (hm : StrsAt w a ss) (hl : ss.length ≤ maxLen) :
 Calls Tryz.prog 12 #[.slice a ss.length cap, .string s] w fun e w' => e = .returned (.bool (hasB ss s)) ∧ w = w' := by
 unfold maxLen at hl
 go_enter Tryz.func12, Tryz.ntmps12
 go_wp2
 go_loop [5] (fun i => ∃ (k : Nat), k ≤ ss.length ∧ i = .int .i64 k ∧ allTo k (fun i => !(eqS (gs ss i) s)) = true) (fun i => ss.length - (intOf i).toNat)
 case atStart => exact ⟨0, Nat.zero_le _, rfl, rfl⟩
 case round =>
  obtain ⟨k, hk, rfl, hall⟩ := hrel
  by_cases hlt : k < ss.length
  · obtain ⟨b, o, ha, hb, hc⟩ := hm.at hlt
    subst ha
    cases hq : eqS (gs ss k) s with
    | true =>
     have hq' : ((gs ss k).toList == s.toList) = true := hq
     go_wp2
     go_ret
     exact ⟨ret_bool (anyTo_true k hlt hq).symm, rfl⟩
    | false =>
     have hq' : ((gs ss k).toList == s.toList) = false := hq
     go_wp2
     go_round
     case rel => exact ⟨k + 1, by omega, by go_num, allTo_succ hall (by simp [hq])⟩
     case measure => simp [intOf]; omega
  · go_wp2
    go_ret
    have : k = ss.length := by omega
    subst this
    exact ⟨ret_bool (anyTo_none hall).symm, rfl⟩

set_option maxHeartbeats 400000 in
theorem wTexts_any (a b : Option Addr) (ca cb : Nat) (xs ys : List ByteArray) (w : World) (hx : StrsAt w a xs) (hy : StrsAt w b ys) (lx : xs.length ≤ maxLen) :
 Calls Tryz.prog 37 #[.slice a xs.length ca, .slice b ys.length cb] w fun e w' => e = .returned (.bool (eqSS xs ys)) ∧ Below w.heap.size w w' := by
 unfold maxLen at lx
 by_cases hlen : xs.length = ys.length
 · have hl1 : ((xs.length : Int) != (ys.length : Int)) = false := by simp [hlen]
   go_enter Tryz.func37, Tryz.ntmps37
   go_wp2
   go_loopw [5] (fun i wr => ∃ (k : Nat), k ≤ xs.length ∧ i = .int .i64 k ∧ allTo k (fun i => eqS (gs xs i) (gs ys i)) = true ∧ Below w.heap.size w wr) (fun i _ => xs.length - (intOf i).toNat)
   case atStart => exact ⟨0, Nat.zero_le _, rfl, rfl, Below.refl _ _⟩
   case round =>
    obtain ⟨k, hk, rfl, hall, hbel⟩ := hrel
    clear hl1
    by_cases hlt : k < xs.length
    · obtain ⟨b1, o1, ha1, hb1, hc1⟩ := (hx.later hbel).at hlt
      obtain ⟨b2, o2, ha2, hb2, hc2⟩ := (hy.later hbel).at (k := k) (by omega)
      subst ha1 ha2
      have hlt2 : (k : Int) < ys.length := by omega
      have HL : Hid (xs.length = ys.length) := hlen
      clear hlen
      cases hq : eqS (gs xs k) (gs ys k) with
      | true =>
       have hq' : ((gs xs k).toList == (gs ys k).toList) = true := hq
       go_wp2
       go_quiet (fail)
       go_wp2
       go_roundw
       case rel => exact ⟨k + 1, by omega, by go_num, allTo_succ hall hq, below_drewN hbel _⟩
       case measure => simp [intOf]; omega
      | false =>
       have hq' : ((gs xs k).toList == (gs ys k).toList) = false := hq
       go_wp2
       go_quiet (fail)
       go_wp2
       go_ret
       exact ⟨ret_bool (by unfold eqSS; rw [allTo_false k hlt hq, Bool.and_false]), below_drewN hbel _⟩
    · go_wp2
      go_ret
      have : k = xs.length := by omega
      subst this
      exact ⟨ret_bool (by unfold eqSS; rw [hall]; simp [hlen]), hbel⟩
 · have hl1 : ((xs.length : Int) != (ys.length : Int)) = true := by simp; omega
   go_enter Tryz.func37, Tryz.ntmps37
   go_wp2
   go_ret
   exact ⟨ret_bool (by unfold eqSS; simp [hlen]), Below.refl _ _⟩

set_option maxRecDepth 100000 in
set_option maxHeartbeats 4000000 in
theorem wWant_any (x y : Want) (a2 a3 a4 a5 : Option Addr) (c2 c3 c4 c5 : Nat) (e2 e3 e4 e5 : Option Addr) (d2 d3 d4 d5 : Nat) (w : World) (hx : WantIn w x a2 a3 a4 a5) (hy : WantIn w y e2 e3 e4 e5) (fx : WantFit x) :
 Calls Tryz.prog 38 #[wantW x a2 a3 a4 a5 c2 c3 c4 c5, wantW y e2 e3 e4 e5 d2 d3 d4 d5] w fun e w' => e = .returned (.bool (sameB x y)) ∧ Below w.heap.size w w' := by
 have hl3 := fx.usesLen
 unfold maxLen at hl3
 unfold wantW
 have b0 : Below w.heap.size w ((w.alloc (.cells #[.int .i64 x.number, .int .i64 x.kind, .slice a2 x.stuffs.length c2, .slice a3 x.uses.length c3, .slice a4 x.opens.length c4, .slice a5 x.shuts.length c5] 38)).alloc (.cells #[.int .i64 y.number, .int .i64 y.kind, .slice e2 y.stuffs.length d2, .slice e3 y.uses.length d3, .slice e4 y.opens.length d4, .slice e5 y.shuts.length d5] 38)) :=
  ((Below.refl _ _).alloc (Nat.le_refl _) _).alloc (by simp) _
 have i0 := (Row.new w 38 [.int .i64 x.number, .int .i64 x.kind, .slice a2 x.stuffs.length c2, .slice a3 x.uses.length c3, .slice a4 x.opens.length c4, .slice a5 x.shuts.length c5]).alloc (.cells #[.int .i64 y.number, .int .i64 y.kind, .slice e2 y.stuffs.length d2, .slice e3 y.uses.length d3, .slice e4 y.opens.length d4, .slice e5 y.shuts.length d5] 38)
 have o0 := Row.new (w.alloc (.cells #[.int .i64 x.number, .int .i64 x.kind, .slice a2 x.stuffs.length c2, .slice a3 x.uses.length c3, .slice a4 x.opens.length c4, .slice a5 x.shuts.length c5] 38)) 38 [.int .i64 y.number, .int .i64 y.kind, .slice e2 y.stuffs.length d2, .slice e3 y.uses.length d3, .slice e4 y.opens.length d4, .slice e5 y.shuts.length d5]
 have hsz : (w.alloc (.cells #[.int .i64 x.number, .int .i64 x.kind, .slice a2 x.stuffs.length c2, .slice a3 x.uses.length c3, .slice a4 x.opens.length c4, .slice a5 x.shuts.length c5] 38)).heap.size = w.heap.size + 1 := by simp
 rw [hsz] at o0
 clear hsz
 by_cases n0 : x.number = y.number
 case neg =>
  have g0 : (x.number != y.number) = true := by simp [n0]
  have HN : Hid (¬ x.number = y.number) := n0
  clear n0
  go_enter Tryz.func38, Tryz.ntmps38
  go_wp2
  go_ret
  exact ⟨ret_bool (by simp [sameB, HN.out]), b0⟩
 have g0 : (x.number != y.number) = false := by simp [n0]
 have HN : Hid (x.number = y.number) := n0
 clear n0
 by_cases n1 : x.kind = y.kind
 case neg =>
  have g1 : (x.kind != y.kind) = true := by simp [n1]
  have HK : Hid (¬ x.kind = y.kind) := n1
  clear n1
  go_enter Tryz.func38, Tryz.ntmps38
  go_wp2
  go_ret
  exact ⟨ret_bool (by simp [sameB, HK.out]), b0⟩
 have g1 : (x.kind != y.kind) = false := by simp [n1]
 have HK : Hid (x.kind = y.kind) := n1
 clear n1
 by_cases n2 : x.uses.length = y.uses.length
 case neg =>
  have g2 : ((x.uses.length : Int) != (y.uses.length : Int)) = true := by simp; omega
  have HU : Hid (¬ x.uses.length = y.uses.length) := n2
  clear n2
  go_enter Tryz.func38, Tryz.ntmps38
  go_wp2
  go_ret
  exact ⟨ret_bool (by simp [sameB, eqUU, HU.out]), b0⟩
 have g2 : ((x.uses.length : Int) != (y.uses.length : Int)) = false := by simp [n2]
 have HU : Hid (x.uses.length = y.uses.length) := n2
 clear n2
 go_enter Tryz.func38, Tryz.ntmps38
 go_wp2_with fail
 clear g0 g1 g2
 refine (wTexts_any a2 e2 c2 d2 x.stuffs y.stuffs _ (hx.later b0).stuffs (hy.later b0).stuffs fx.stuffs.1).mono ?_
 rintro e w1 ⟨rfl, hb⟩
 have b1 := b0.trans (hb.mono b0.size)
 have i1 := i0.later hb
 have o1 := o0.later hb
 clear b0 i0 o0 hb
 cases h2 : eqSS x.stuffs y.stuffs with
 | false =>
  go_wp2
  go_ret
  exact ⟨ret_bool (by simp [sameB, h2]), b1⟩
 | true =>
 have p4 := i1.cell 4 rfl
 have q4 := o1.cell 4 rfl
 go_wp2_with fail
 refine (wTexts_any a4 e4 c4 d4 x.opens y.opens _ (hx.later b1).opens (hy.later b1).opens fx.opens.1).mono ?_
 rintro e w2 ⟨rfl, hb⟩
 have b2 := b1.trans (hb.mono b1.size)
 have i2 := i1.later hb
 have o2 := o1.later hb
 clear b1 i1 o1 hb p4 q4
 cases h4 : eqSS x.opens y.opens with
 | false =>
  go_wp2
  go_ret
  exact ⟨ret_bool (by simp [sameB, h4]), b2⟩
 | true =>
 have p5 := i2.cell 5 rfl
 have q5 := o2.cell 5 rfl
 go_wp2_with fail
 refine (wTexts_any a5 e5 c5 d5 x.shuts y.shuts _ (hx.later b2).shuts (hy.later b2).shuts fx.shuts.1).mono ?_
 rintro e w3 ⟨rfl, hb⟩
 have b3 := b2.trans (hb.mono b2.size)
 have i3 := i2.later hb
 have o3 := o2.later hb
 clear b2 i2 o2 hb p5 q5
 cases h5 : eqSS x.shuts y.shuts with
 | false =>
  go_wp2
  go_ret
  exact ⟨ret_bool (by simp [sameB, h5]), b3⟩
 | true =>
 have HS : Hid (sameB x y = eqUU x.uses y.uses) := sameB_split HN.out HK.out h2 h4 h5
 have p3 := i3.cell 3 rfl
 have q3 := o3.cell 3 rfl
 clear h2 h4 h5
 go_wp2
 go_loopw [5] (fun i wr => ∃ (k : Nat), k ≤ x.uses.length ∧ i = .int .i64 k ∧ allTo k (fun i => eqU (gu x.uses i) (gu y.uses i)) = true ∧ Below w3.heap.size w3 wr) (fun i _ => x.uses.length - (intOf i).toNat)
 case atStart => exact ⟨0, Nat.zero_le _, rfl, rfl, Below.refl _ _⟩
 case round wr =>
  obtain ⟨k, hk, rfl, hall, hbel⟩ := hrel
  have hbw := b3.trans (hbel.mono b3.size)
  have p3' := (i3.later hbel).cell 3 rfl
  have q3' := (o3.later hbel).cell 3 rfl
  clear p3 q3
  by_cases hlt : k < x.uses.length
  · obtain ⟨b1, o1, ha1, hb1, hc10, hc11, hc12⟩ := (hx.later hbw).uses.at hlt
    obtain ⟨b2, o2, ha2, hb2, hc20, hc21, hc22⟩ := (hy.later hbw).uses.at (k := k) (by have := HU.out; omega)
    subst ha1 ha2
    have hlt2 : (k : Int) < y.uses.length := by have := HU.out; omega
    cases h1 : eqS (gu x.uses k).name (gu y.uses k).name with
    | false =>
     have h1' : ((gu x.uses k).name.toList == (gu y.uses k).name.toList) = false := h1
     have HQ : Hid (eqU (gu x.uses k) (gu y.uses k) = false) := (by simp [eqU, h1] : eqU (gu x.uses k) (gu y.uses k) = false)
     go_wp2
     go_quiet (fail)
     go_wp2
     go_ret
     exact ⟨ret_bool (by rw [HS.out]; unfold eqUU; rw [allTo_false k hlt HQ.out, Bool.and_false]), below_drewN hbw _⟩
    | true =>
     have h1' : ((gu x.uses k).name.toList == (gu y.uses k).name.toList) = true := h1
     cases h2 : (gu x.uses k).role == (gu y.uses k).role with
     | false =>
      have HQ : Hid (eqU (gu x.uses k) (gu y.uses k) = false) := (by simp [eqU, h2] : eqU (gu x.uses k) (gu y.uses k) = false)
      go_wp2
      go_quiet (fail)
      go_wp2
      go_ret
      exact ⟨ret_bool (by rw [HS.out]; unfold eqUU; rw [allTo_false k hlt HQ.out, Bool.and_false]), below_drewN hbw _⟩
     | true =>
      cases h3 : (gu x.uses k).amount == (gu y.uses k).amount with
      | false =>
       have HQ : Hid (eqU (gu x.uses k) (gu y.uses k) = false) := (by simp [eqU, h3] : eqU (gu x.uses k) (gu y.uses k) = false)
       go_wp2
       go_quiet (fail)
       go_wp2
       go_ret
       exact ⟨ret_bool (by rw [HS.out]; unfold eqUU; rw [allTo_false k hlt HQ.out, Bool.and_false]), below_drewN hbw _⟩
      | true =>
       have HQ : Hid (eqU (gu x.uses k) (gu y.uses k) = true) := (by unfold eqU; rw [h1, h2, h3]; rfl : eqU (gu x.uses k) (gu y.uses k) = true)
       go_wp2
       go_quiet (fail)
       go_wp2
       go_roundw
       case rel => exact ⟨k + 1, by omega, by go_num, allTo_succ hall HQ.out, below_drewN hbel _⟩
       case measure => simp [intOf]; omega
  · go_wp2
    go_ret
    have : k = x.uses.length := by omega
    subst this
    exact ⟨ret_bool (by rw [HS.out]; unfold eqUU; rw [hall]; simp [HU.out]), hbw⟩

set_option maxHeartbeats 1000000 in
theorem wInts_any (a b : Option Addr) (ca cb : Nat) (l : List Int) (w : World) (hx : RowAt w a l.length 1 (intF l)) (hy : RowAt w b l.length 1 (intF l)) (lx : l.length ≤ maxLen) :
 Calls Tryz.prog 10 #[.slice a l.length ca, .slice b l.length cb] w fun e w' => e = .returned (.bool true) ∧ Below w.heap.size w w' := by
 unfold maxLen at lx
 have hl1 : ((l.length : Int) != (l.length : Int)) = false := by simp
 go_enter Tryz.func10, Tryz.ntmps10
 go_wp2
 go_loopw [5] (fun i wr => ∃ (k : Nat) (X : World), X = wr ∧ k ≤ l.length ∧ i = .int .i64 k ∧ Below w.heap.size w X) (fun i _ => l.length - (intOf i).toNat)
 case atStart => exact ⟨0, _, rfl, Nat.zero_le _, rfl, Below.refl _ _⟩
 case round =>
  obtain ⟨k, X, rfl, hk, rfl, hbel⟩ := hrel
  by_cases hlt : k < l.length
  · obtain ⟨b1, o1, ha1, hb1, hc1⟩ := (hx.later hbel) k hlt
    obtain ⟨b2, o2, ha2, hb2, hc2⟩ := (hy.later hbel) k hlt
    subst ha1 ha2
    have d1 := hc1 0 (by omega)
    have d2 := hc2 0 (by omega)
    simp only [Nat.mul_one, Nat.add_zero, intF] at d1 d2
    have hlt2 : (k : Int) < l.length := by omega
    clear hc1 hc2 hx hy
    generalize l.getD k 0 = z at d1 d2
    have hz : (z != z) = false := by simp
    go_wp2
    go_quiet (fail)
    go_wp2
    go_roundw
    case rel => exact ⟨k + 1, _, rfl, by omega, by go_num, below_drewN hbel _⟩
    case measure => simp [intOf]; omega
  · go_wp2
    go_ret
    exact ⟨rfl, hbel⟩

end Go.Proofs.YtfmhkicncgccjaaGreat

