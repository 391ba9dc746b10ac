/- For every book, of whatever size, and every text, the law FnExactClaimShut returns true, and both read behind the call as before. -/
import Derived.Test.YtfmhkicncgccjabGreatOvM
import Derived.Test.YtfmhkicncgccjabGreatShA
import Derived.Test.YtfmhkicncgccjabGreatShB
import Derived.Test.YtfmhkicncgccjabGreatBkEq
import Derived.Deep.RegionWith
import Derived.Test.YtfmhkicncgccjabGreatRows
import Derived.Test.YtfmhkicncgccjabGreatBkOpen
import Derived.ProofKit
import Derived.OpenShut
import Derived.ChangeMaps5
/- What ClaimShut answers, the specification's and the program's. -/
namespace Go.Proofs.YtfmhkicncgccjabGreat
open Go.RowKit Go.Sort
set_option linter.unusedSimpArgs false
set_option linter.unusedVariables false

theorem infoInt : (Tryz.prog.info? 3).map (fun i => (i.zero, i.size, i.bytes)) = some (some (.int .i64 0), 1, 8) := by kernel_rfl
theorem owns_ints {w : World} {base : Nat} {v : Value} {l : List Int} (h : w.ownsRow base 3 1 v l.length (l.map (Value.int .i64))) : ∃ a c, v = .slice a l.length c ∧ OwnL w 3 1 a l.length (intF l) ∧ (∀ x, InSlot a l.length x → base ≤ x) ∧ l.length ≤ c := by
  refine OwnL.of_owns ?_
  have e : flat l.length 1 (intF l) = l.map (Value.int .i64) := by
    apply List.ext_getElem
    · simp [flat_length]
    · intro i h1 h2
      simp [flat, intF, Nat.div_one, List.getD_eq_getElem?_getD]
      have : i < l.length := by simpa using h2
      simp [this]
  rw [e]
  exact h

set_option maxRecDepth 100000 in
set_option maxHeartbeats 4000000 in
theorem specShut_any (x : Book) (af ap av aq : Option Addr) (cf cp cv cq : Nat) (v : ByteArray) (w : World) (hx : BookIn w x af ap av aq) (fx : BookFit x) (hp : x.parts.length ≤ 1048576) :
    Calls Tryz.prog 10 #[bookV x af ap av aq cf cp cv cq, .string v] w fun e w' => (∃ a c, e = .returned (.slice a (shutC x v).length c) ∧ OwnL w' 3 1 a (shutC x v).length (intF (shutC x v)) ∧ ∀ y, InSlot a (shutC x v).length y → w.heap.size ≤ y) ∧ Below w.heap.size w w' := by
  obtain ⟨i0, hi, hz0, hz1, hz2⟩ := info_parts infoInt
  have fo : ∀ p ∈ x.parts, WantFit p.want := fx.parts.2
  have hpm := hx.parts
  unfold bookV
  have v0 : Below w.heap.size w ((w.alloc (.cells #[.slice af x.foes.length cf, .slice ap x.spots.length cp, .slice av x.valves.length cv, .slice aq x.parts.length cq, .int .i64 x.seen] 34)).alloc (.cells #[] 3)) := ((Below.refl _ _).alloc (Nat.le_refl _) _).alloc (by simp) _
  have r0 : Row ((w.alloc (.cells #[.slice af x.foes.length cf, .slice ap x.spots.length cp, .slice av x.valves.length cv, .slice aq x.parts.length cq, .int .i64 x.seen] 34)).alloc (.cells #[] 3)) w.heap.size 34 [.slice af x.foes.length cf, .slice ap x.spots.length cp, .slice av x.valves.length cv, .slice aq x.parts.length cq, .int .i64 x.seen] := (Row.new _ _ _).alloc _
  have q0 : Row ((w.alloc (.cells #[.slice af x.foes.length cf, .slice ap x.spots.length cp, .slice av x.valves.length cv, .slice aq x.parts.length cq, .int .i64 x.seen] 34)).alloc (.cells #[] 3)) (w.heap.size + 1) 3 [] := by
    have := Row.new (w.alloc (.cells #[.slice af x.foes.length cf, .slice ap x.spots.length cp, .slice av x.valves.length cv, .slice aq x.parts.length cq, .int .i64 x.seen] 34)) 3 []
    simpa using this
  go_enter Tryz.func10, Tryz.ntmps10
  go_wp2_with fail
  refine (specBookOk_any x _ _ _ _ _ _ _ _ _ (hx.later v0) fx).mono ?_
  rintro e w1 ⟨rfl, hb⟩
  have hB1 := v0.trans (hb.mono v0.size)
  have bk := r0.later hb
  have qk := q0.later hb
  have own0 : w1.ownsRow (w.heap.size + 1) 3 1 (.slice (some ⟨w.heap.size + 1, 0, none⟩) 0 0) 0 [] := ⟨rfl, Or.inr ⟨w.heap.size + 1, 0, #[], rfl, Nat.le_refl _, qk, Nat.le_refl _, by unfold maxLen; omega, rfl, rfl⟩⟩
  clear hx fx hb r0 q0 qk v0
  cases hB : bookB x with
  | false =>
    go_wp2
    go_ret
    have e : shutC x v = [] := by simp [shutC, hB]
    rw [e]
    exact ⟨⟨_, _, rfl, Or.inl rfl, fun y hy => absurd rfl hy.1⟩, hB1⟩
  | true =>
    have eC : shutC x v = shutTo x.parts v x.parts.length := by simp [shutC, hB]
    go_wp2
    go_loopw [5, 6] (fun o i wr => ∃ (k : Nat) (X : World), X = wr ∧ k ≤ x.parts.length ∧ i = .int .i64 k ∧ X.ownsRow (w.heap.size + 1) 3 1 o (shutTo x.parts v k).length ((shutTo x.parts v k).map (Value.int .i64)) ∧ Row X w.heap.size 34 [.slice af x.foes.length cf, .slice ap x.spots.length cp, .slice av x.valves.length cv, .slice aq x.parts.length cq, .int .i64 x.seen] ∧ Below w.heap.size w X) (fun _ i _ => x.parts.length - (intOf i).toNat)
    case atStart => exact ⟨0, _, rfl, Nat.zero_le _, rfl, own0, bk, hB1⟩
    case round =>
      obtain ⟨k, X, rfl, hk, rfl, hown, row, hbX⟩ := hrel
      clear own0 bk hB1
      have r3 := row.cell 3 rfl
      have hlen := shutTo_le x.parts v k
      by_cases hlt : k < x.parts.length
      · obtain ⟨b, o, a2, a3, a4, a5, c2, c3, c4, c5, ha, hb, hc0, hc1, hc2, hc3, hc4, hc5, hc6, hst⟩ := (hpm.later hbX).at hlt
        subst ha
        have hlt2 : (k : Int) < x.parts.length := by omega
        have hcall := l1Has_any a5 c5 (gq x.parts k).want.shuts v X hst.shuts (fo _ (gq_mem hlt)).shuts.1
        clear hc1 hc2 hc3 hc4 hc6 hst
        cases hh : hasB (gq x.parts k).want.shuts v with
        | true =>
          rw [hh] at hcall
          have HS : Hid (shutTo x.parts v (k + 1) = shutTo x.parts v k ++ [(gq x.parts k).want.number]) := shutTo_hit hh
          clear hh
          generalize (gq x.parts k).want.number = num at hc0 HS
          go_wp2_with (first
            | (go_at_call 21; refine hcall.mono ?_; rintro e w2 ⟨rfl, rfl⟩)
            | (at_builtin; refine wpList_append_own _ rfl _ _ 38 rfl (w.heap.size + 1) 3 i0 (.int .i64 0) 1 8 Tryz.underlying38 hi hz0 hz1 hz2 rfl (by decide) _ _ _ rfl (hown.alloc _) ⟨X.heap.size, 0, none⟩ 1 1 [.int .i64 num] rfl rfl ?c1 ?c2 ?c3 ?c4 ?c5 ?_))
          case c1 =>
            intro j u hj
            match j, hj with
            | 0, hj => simp at hj; subst hj; simp [Addr.add]
          case c2 => intro u hu; simp at hu; subst hu; rfl
          case c3 => unfold maxLen; omega
          case c4 => omega
          case c5 => have := row.lt; simp; omega
          intro v' w2 hown' hgrow _
          have hb2 := (hbX.alloc hbX.size _).grown hgrow (by have := hbX.size; simp; omega) (fun g hg => by have := (hown.alloc (.cells #[.int .i64 num] 3)).lt g hg; omega)
          have row2 := (row.alloc (.cells #[.int .i64 num] 3)).grown hgrow (fun e => by have := (hown.alloc (.cells #[.int .i64 num] 3)).lt _ e.symm; omega)
          clear hown hgrow row hcall r3 hc0 hc5
          go_wp2
          go_roundw
          case rel => exact ⟨k + 1, _, rfl, by omega, by go_num, by rw [HS.out]; simpa using hown', row2, hb2⟩
          case measure => simp [intOf]; omega
        | false =>
          rw [hh] at hcall
          have HS : Hid (shutTo x.parts v (k + 1) = shutTo x.parts v k) := shutTo_miss hh
          clear hh
          go_wp2_with (go_at_call 21; refine hcall.mono ?_; rintro e w2 ⟨rfl, rfl⟩)
          go_roundw
          case rel => exact ⟨k + 1, _, rfl, by omega, by go_num, by rw [HS.out]; exact hown, row, hbX⟩
          case measure => simp [intOf]; omega
      · have : k = x.parts.length := by omega
        subst this
        obtain ⟨a, c, rfl, ho, hy, _⟩ := owns_ints hown
        go_wp2
        go_ret
        rw [eC]
        exact ⟨⟨a, c, rfl, ho, fun y h => by have := hy y h; omega⟩, hbX⟩

set_option maxRecDepth 100000 in
set_option maxHeartbeats 4000000 in
theorem implShut_any (x : Book) (af ap av aq : Option Addr) (cf cp cv cq : Nat) (v : ByteArray) (w : World) (hx : BookIn w x af ap av aq) (fx : BookFit x) (hp : x.parts.length ≤ 1048576) :
    Calls Tryz.prog 11 #[bookV x af ap av aq cf cp cv cq, .string v] w fun e w' => (∃ a c, e = .returned (.slice a (shutC x v).length c) ∧ OwnL w' 3 1 a (shutC x v).length (intF (shutC x v)) ∧ ∀ y, InSlot a (shutC x v).length y → w.heap.size ≤ y) ∧ Below w.heap.size w w' := by
  obtain ⟨i0, hi, hz0, hz1, hz2⟩ := info_parts infoInt
  have fo : ∀ p ∈ x.parts, WantFit p.want := fx.parts.2
  have hpm := hx.parts
  unfold bookV
  have v0 : Below w.heap.size w (w.alloc (.cells #[.slice af x.foes.length cf, .slice ap x.spots.length cp, .slice av x.valves.length cv, .slice aq x.parts.length cq, .int .i64 x.seen] 34)) := (Below.refl _ _).alloc (Nat.le_refl _) _
  have r0 := Row.new w 34 [.slice af x.foes.length cf, .slice ap x.spots.length cp, .slice av x.valves.length cv, .slice aq x.parts.length cq, .int .i64 x.seen]
  go_enter Tryz.func11, Tryz.ntmps11
  go_wp2_with fail
  refine (implBookOk_any x _ _ _ _ _ _ _ _ _ (hx.later v0) fx).mono ?_
  rintro e w1 ⟨rfl, hb⟩
  have hB1 := v0.trans (hb.mono v0.size)
  have bk := r0.later hb
  have own0 : w1.ownsRow (w.heap.size + 1) 3 1 (.slice none 0 0) 0 [] := World.ownsRow_nil _ _ _ _
  clear hx fx hb r0 v0
  cases hB : bookB x with
  | false =>
    go_wp2
    go_ret
    have e : shutC x v = [] := by simp [shutC, hB]
    rw [e]
    exact ⟨⟨_, _, rfl, Or.inl rfl, fun y hy => absurd rfl hy.1⟩, hB1⟩
  | true =>
    have eC : shutC x v = shutTo x.parts v x.parts.length := by simp [shutC, hB]
    have y3 := bk.cell 3 rfl
    have hz := bk.lt
    go_wp2
    go_loopw [5, 7, 14] (fun o _ i wr => ∃ (k : Nat) (X : World), X = wr ∧ k ≤ x.parts.length ∧ i = .int .i64 k ∧ X.ownsRow (w.heap.size + 1) 3 1 o (shutTo x.parts v k).length ((shutTo x.parts v k).map (Value.int .i64)) ∧ Row X w.heap.size 34 [.slice af x.foes.length cf, .slice ap x.spots.length cp, .slice av x.valves.length cv, .slice aq x.parts.length cq, .int .i64 x.seen] ∧ Below w.heap.size w X) (fun _ _ i _ => x.parts.length - (intOf i).toNat)
    case atStart => exact ⟨0, _, rfl, Nat.zero_le _, rfl, own0, bk, hB1⟩
    case round =>
      obtain ⟨k, X, rfl, hk, rfl, hown, row, hbX⟩ := hrel
      clear own0 bk hB1 y3 hz
      have r3 := row.cell 3 rfl
      have hlen := shutTo_le x.parts v k
      by_cases hlt : k < x.parts.length
      · obtain ⟨b, o, a2, a3, a4, a5, c2, c3, c4, c5, ha, hb, hc0, hc1, hc2, hc3, hc4, hc5, hc6, hst⟩ := (hpm.later hbX).at hlt
        subst ha
        have hlt2 : (k : Int) < x.parts.length := by omega
        have vb : Below X.heap.size X (X.alloc (.cells #[.int .i64 (gq x.parts k).want.number, .int .i64 (gq x.parts k).want.kind, .slice a2 (gq x.parts k).want.stuffs.length c2, .slice a3 (gq x.parts k).want.uses.length c3, .slice a4 (gq x.parts k).want.opens.length c4, .slice a5 (gq x.parts k).want.shuts.length c5, .bool (gq x.parts k).stopped] 52)) := (Below.refl _ _).alloc (Nat.le_refl _) _
        have vr := row.later vb
        have vX := hbX.trans (vb.mono hbX.size)
        have vo := hown.alloc (.cells #[.int .i64 (gq x.parts k).want.number, .int .i64 (gq x.parts k).want.kind, .slice a2 (gq x.parts k).want.stuffs.length c2, .slice a3 (gq x.parts k).want.uses.length c3, .slice a4 (gq x.parts k).want.opens.length c4, .slice a5 (gq x.parts k).want.shuts.length c5, .bool (gq x.parts k).stopped] 52)
        have hcall := contains_any a5 c5 (gq x.parts k).want.shuts v _ (hst.shuts.later vb) (fo _ (gq_mem hlt)).shuts.1
        clear hst hown row hbX vb
        cases hh : hasB (gq x.parts k).want.shuts v with
        | true =>
          rw [hh] at hcall
          have HS : Hid (shutTo x.parts v (k + 1) = shutTo x.parts v k ++ [(gq x.parts k).want.number]) := shutTo_hit hh
          clear hh
          generalize (gq x.parts k).want.number = num at hc0 HS vo vr vX hcall
          go_wp2_with (first
            | (go_at_call 27; refine hcall.mono ?_; rintro e w2 ⟨rfl, rfl⟩)
            | (at_builtin; refine wpList_append_own _ rfl _ _ 38 rfl (w.heap.size + 1) 3 i0 (.int .i64 0) 1 8 Tryz.underlying38 hi hz0 hz1 hz2 rfl (by decide) _ _ _ rfl (vo.alloc _) ⟨X.heap.size + 1, 0, none⟩ 1 1 [.int .i64 num] rfl rfl ?c1 ?c2 ?c3 ?c4 ?c5 ?_))
          case c1 =>
            intro j u hj
            match j, hj with
            | 0, hj => simp at hj; subst hj; simp [Addr.add, World.cell?_alloc_new]
          case c2 => intro u hu; simp at hu; subst hu; rfl
          case c3 => unfold maxLen; omega
          case c4 => omega
          case c5 => have := vr.lt; simp at this ⊢; omega
          intro v' w2 hown' hgrow _
          have hb2 := (vX.alloc vX.size _).grown hgrow (by have := vX.size; simp at this ⊢; omega) (fun g hg => by have := (vo.alloc (.cells #[.int .i64 num] 3)).lt g hg; omega)
          have row2 := (vr.alloc (.cells #[.int .i64 num] 3)).grown hgrow (fun e => by have := (vo.alloc (.cells #[.int .i64 num] 3)).lt _ e.symm; omega)
          clear vo hgrow vr vX hcall r3
          go_wp2
          go_roundw
          case rel => exact ⟨k + 1, _, rfl, by omega, by go_num, by rw [HS.out]; simpa using hown', row2, hb2⟩
          case measure => simp [intOf]; omega
        | false =>
          rw [hh] at hcall
          have HS : Hid (shutTo x.parts v (k + 1) = shutTo x.parts v k) := shutTo_miss hh
          clear hh
          go_wp2_with (go_at_call 27; refine hcall.mono ?_; rintro e w2 ⟨rfl, rfl⟩)
          go_roundw
          case rel => exact ⟨k + 1, _, rfl, by omega, by go_num, by rw [HS.out]; exact vo, vr, vX⟩
          case measure => simp [intOf]; omega
      · have : k = x.parts.length := by omega
        subst this
        obtain ⟨a, c, rfl, ho, hy, _⟩ := owns_ints hown
        go_wp2
        go_ret
        rw [eC]
        exact ⟨⟨a, c, rfl, ho, fun y h => by have := hy y h; omega⟩, hbX⟩

end Go.Proofs.YtfmhkicncgccjabGreat

/- The law FnExactClaimShut, walked: it returns true. -/
namespace Go.Proofs.YtfmhkicncgccjabGreat
open Go.RowKit Go.Sort
set_option linter.unusedSimpArgs false
set_option linter.unusedVariables false

theorem shutC_le (x : Book) (v : ByteArray) : (shutC x v).length ≤ x.parts.length := by
  unfold shutC
  split
  · exact shutTo_le _ _ _
  · simp

set_option maxRecDepth 100000 in
set_option maxHeartbeats 8000000 in
theorem shutLaw_any (x : Book) (af ap av aq : Option Addr) (cf cp cv cq : Nat) (v : ByteArray) (w : World) (hin : BookIn w x af ap av aq) (hf : BookFit x) (hv : v.size ≤ maxLen) :
    Calls Tryz.prog 4 #[bookV x af ap av aq cf cp cv cq, .string v] w fun e w' => e = .returned (.bool true) ∧ Below w.heap.size w w' := by
  unfold maxLen at hv
  unfold bookV
  have HB0 : Below (w.alloc (.cells #[.slice af x.foes.length cf, .slice ap x.spots.length cp, .slice av x.valves.length cv, .slice aq x.parts.length cq, .int .i64 x.seen] 27)).heap.size (w.alloc (.cells #[.slice af x.foes.length cf, .slice ap x.spots.length cp, .slice av x.valves.length cv, .slice aq x.parts.length cq, .int .i64 x.seen] 27)) (w.alloc (.cells #[.slice af x.foes.length cf, .slice ap x.spots.length cp, .slice av x.valves.length cv, .slice aq x.parts.length cq, .int .i64 x.seen] 27)) := Below.refl _ _
  by_cases hbig : (1048576 : Int) < v.size
  · go_enter Tryz.func4, Tryz.ntmps4
    go_wp2
    go_ret
    exact ⟨rfl, below_over HB0⟩
  go_enter Tryz.func4, Tryz.ntmps4
  go_wp2_with fail
  refine (szClaimBook_w x af ap av aq cf cp cv cq 1048576 _ (hin.later (below_over HB0)) hf (by omega) (by omega)).mono ?_
  rintro e w1 ⟨⟨r1, rfl, hr1, hr1', hR1⟩, hb⟩
  have HB1 := HB0.trans (hb.mono HB0.size)
  clear hb HB0
  have bk := bookRow HB1
  have y0 := bk.cell 0 rfl
  have y1 := bk.cell 1 rfl
  have y2 := bk.cell 2 rfl
  have y3 := bk.cell 3 rfl
  have y4 := bk.cell 4 rfl
  have hz := bk.lt
  by_cases hn1 : r1 < 0
  · go_wp2
    go_ret
    exact ⟨rfl, below_over HB1⟩
  have hwB : wB x ≤ 1048576 := by have := hR1 (by omega); omega
  have R := bookRoom_of hwB
  have hp := R.parts
  have hle := shutC_le x v
  have hk4 := kB4_le x 1
  clear hR1
  go_wp2_with fail
  refine (toClaimBook_own x af ap av aq cf cp cv cq _ (hin.later (below_over HB1)) R).mono ?_
  rintro e w2 ⟨⟨b0, b1, b2, b3, A1', C1', A2', C2', rfl, ob2, lo2⟩, hb⟩
  have in2 := ob2.in_
  have HB2 := HB1.trans (hb.mono HB1.size)
  clear y0 y1 y2 y3 y4 hz
  clear hb HB1 ob2 lo2 bk
  have bk := bookRow HB2
  have y0 := bk.cell 0 rfl
  have y1 := bk.cell 1 rfl
  have y2 := bk.cell 2 rfl
  have y3 := bk.cell 3 rfl
  have y4 := bk.cell 4 rfl
  have hz := bk.lt
  go_wp2_with fail
  refine (specShut_any x _ _ _ _ _ _ _ _ v _ in2 hf hp).mono ?_
  rintro e w3 ⟨⟨aw, cw, rfl, ow, low⟩, hb⟩
  have HB3 := HB2.trans (hb.mono HB2.size)
  have lw : ∀ y, InSlot aw (shutC x v).length y → (w.alloc (.cells #[.slice af x.foes.length cf, .slice ap x.spots.length cp, .slice av x.valves.length cv, .slice aq x.parts.length cq, .int .i64 x.seen] 27)).heap.size ≤ y ∧ y < w3.heap.size := fun y hy => ⟨by have := low y hy; have := HB2.size; omega, ow.lt hy⟩
  clear y0 y1 y2 y3 y4 hz
  clear hb HB2 in2 low bk
  have bk := bookRow HB3
  have y0 := bk.cell 0 rfl
  have y1 := bk.cell 1 rfl
  have y2 := bk.cell 2 rfl
  have y3 := bk.cell 3 rfl
  have y4 := bk.cell 4 rfl
  have hz := bk.lt
  go_wp2_with fail
  refine (toClaimBook_own x af ap av aq cf cp cv cq _ (hin.later (below_over HB3)) R).mono ?_
  rintro e w4 ⟨⟨f0, f1, f2, f3, A1, C1, A2, C2, rfl, ob4, lo4⟩, hb⟩
  have HB4 := HB3.trans (hb.mono HB3.size)
  have ow4 := ow.later hb
  have lb : ∀ y, InBk x (some ⟨f0, 0, none⟩) (some ⟨f1, 0, none⟩) (some ⟨f2, 0, none⟩) (some ⟨f3, 0, none⟩) A1 A2 y → w3.heap.size ≤ y ∧ y < w4.heap.size := fun y hy => ⟨lo4 y hy, ob4.lt hy⟩
  have s34 := HB3.size
  have s45 : w3.heap.size ≤ w4.heap.size := hb.size
  clear y0 y1 y2 y3 y4 hz
  clear hb ow lo4 bk
  have bk := bookRow HB4
  have y0 := bk.cell 0 rfl
  have y1 := bk.cell 1 rfl
  have y2 := bk.cell 2 rfl
  have y3 := bk.cell 3 rfl
  have y4 := bk.cell 4 rfl
  have hz := bk.lt
  have xr := Row.new w4 34 [.slice (some ⟨f0, 0, none⟩) x.foes.length x.foes.length, .slice (some ⟨f1, 0, none⟩) x.spots.length x.spots.length, .slice (some ⟨f2, 0, none⟩) x.valves.length x.valves.length, .slice (some ⟨f3, 0, none⟩) x.parts.length x.parts.length, .int .i64 x.seen]
  have v4 : Below w4.heap.size w4 (w4.alloc (.cells #[.slice (some ⟨f0, 0, none⟩) x.foes.length x.foes.length, .slice (some ⟨f1, 0, none⟩) x.spots.length x.spots.length, .slice (some ⟨f2, 0, none⟩) x.valves.length x.valves.length, .slice (some ⟨f3, 0, none⟩) x.parts.length x.parts.length, .int .i64 x.seen] 34)) := (Below.refl _ _).alloc (Nat.le_refl _) _
  have HB4' := HB4.trans (v4.mono HB4.size)
  have ob4' := ob4.later v4
  have ow4' := ow4.later v4
  unfold bookV
  go_wp2_with fail
  refine (implShut_any x _ _ _ _ _ _ _ _ v _ ob4'.in_ hf hp).mono ?_
  rintro e w5 ⟨⟨ag, cg, rfl, og, log⟩, hb⟩
  have HB5 := HB4'.trans (hb.mono HB4'.size)
  have lg : ∀ y, InSlot ag (shutC x v).length y → w4.heap.size < y := fun y hy => by have := log y hy; simp at this; omega
  have xr := xr.later hb
  have ob5 := ob4'.later hb
  have ow5 := ow4'.later hb
  clear y0 y1 y2 y3 y4 hz
  clear hb log HB4' ob4' ow4' ob4 ow4 v4 bk
  have HL : Hid ((∀ y, InSlot aw (shutC x v).length y → (w.alloc (.cells #[.slice af x.foes.length cf, .slice ap x.spots.length cp, .slice av x.valves.length cv, .slice aq x.parts.length cq, .int .i64 x.seen] 27)).heap.size ≤ y ∧ y < w3.heap.size) ∧ (∀ y, InBk x (some ⟨f0, 0, none⟩) (some ⟨f1, 0, none⟩) (some ⟨f2, 0, none⟩) (some ⟨f3, 0, none⟩) A1 A2 y → w3.heap.size ≤ y ∧ y < w4.heap.size) ∧ (∀ y, InSlot ag (shutC x v).length y → w4.heap.size < y) ∧ (w.alloc (.cells #[.slice af x.foes.length cf, .slice ap x.spots.length cp, .slice av x.valves.length cv, .slice aq x.parts.length cq, .int .i64 x.seen] 27)).heap.size ≤ w3.heap.size ∧ (w.alloc (.cells #[.slice af x.foes.length cf, .slice ap x.spots.length cp, .slice av x.valves.length cv, .slice aq x.parts.length cq, .int .i64 x.seen] 27)).heap.size ≤ w4.heap.size ∧ w3.heap.size ≤ w4.heap.size) := ⟨lw, lb, lg, s34, HB4.size, s45⟩
  clear lw lb lg s34 s45 HB3 HB4
  go_wp2_with fail
  refine (eqIntS_any ag aw cg cw (shutC x v) _ og.rowAt ow5.rowAt (by unfold maxLen; omega)).mono ?_
  rintro e w6 ⟨rfl, hb⟩
  have HB6 := HB5.trans (hb.mono HB5.size)
  have xr := xr.later hb
  have ob6 := ob5.later hb
  have ow6 := ow5.later hb
  have og6 := og.later hb
  clear hb HB5 ob5 ow5 og
  have bk := bookRow HB6
  have y0 := bk.cell 0 rfl
  have y1 := bk.cell 1 rfl
  have y2 := bk.cell 2 rfl
  have y3 := bk.cell 3 rfl
  have y4 := bk.cell 4 rfl
  have hz := bk.lt
  have z0 := xr.cell 0 rfl
  have z1 := xr.cell 1 rfl
  have z2 := xr.cell 2 rfl
  have z3 := xr.cell 3 rfl
  have z4 := xr.cell 4 rfl
  have hzz := xr.lt
  have HO : Hid (OwnL w6 3 1 aw (shutC x v).length (intF (shutC x v)) ∧ OwnL w6 3 1 ag (shutC x v).length (intF (shutC x v))) := ⟨ow6, og6⟩
  have HXR : Hid (Row w6 w4.heap.size 34 [.slice (some ⟨f0, 0, none⟩) x.foes.length x.foes.length, .slice (some ⟨f1, 0, none⟩) x.spots.length x.spots.length, .slice (some ⟨f2, 0, none⟩) x.valves.length x.valves.length, .slice (some ⟨f3, 0, none⟩) x.parts.length x.parts.length, .int .i64 x.seen]) := xr
  clear ow6 og6 bk xr
  have in6 := ob6.in_
  have HOB : Hid _ := ob6
  clear ob6
  go_wp2_with fail
  go_region_with (first
    | (go_at_call 7
       refine (toClaimBook_any x af ap av aq cf cp cv cq _ (hin.later (below_over (below_drewN HB6 _))) R).mono ?_
       rintro e w7 ⟨⟨g0, g1, g2, g3, rfl, fr7⟩, hb7⟩
       have in7 := fr7.in_
       obtain ⟨u0, u1, u2, u3, u4⟩ : w7.cell? ⟨w4.heap.size, 0, none⟩ = _ ∧ w7.cell? ⟨w4.heap.size, 1, none⟩ = _ ∧ w7.cell? ⟨w4.heap.size, 2, none⟩ = _ ∧ w7.cell? ⟨w4.heap.size, 3, none⟩ = _ ∧ w7.cell? ⟨w4.heap.size, 4, none⟩ = _ := ⟨cellKept hb7 z0, cellKept hb7 z1, cellKept hb7 z2, cellKept hb7 z3, cellKept hb7 z4⟩
       have in6' := in6.later (Below.drew (Below.refl _ _) |>.trans hb7)
       have hb67 := Below.drew (Below.refl _ _) |>.trans hb7)
    | (go_at_call 9
       refine (eqClaimBook_any x _ _ _ _ _ _ _ _ _ _ _ _ _ _ _ _ _ in6' in7 hf).mono ?_
       rintro e w8 ⟨rfl, hb8⟩))
  all_goals
    have B68 : Below w6.heap.size w6 w8 := Below.trans hb67 (hb8.mono hb67.size)
    have HB8 := HB6.trans (B68.mono HB6.size)
    have xr := HXR.out.later B68
    have ob8 := HOB.out.later B68
    have ow8 := HO.out.1.later B68
    have og8 := HO.out.2.later B68
    clear B68 hb8 hb67 in6' u0 u1 u2 u3 u4 in7 fr7 hb7 HXR HOB HO HB6 y0 y1 y2 y3 y4 hz z0 z1 z2 z3 z4 hzz in6
    obtain ⟨lw, lb, lg, s34, s44, s45⟩ := HL.out
    have z0 := xr.cell 0 rfl
    have z1 := xr.cell 1 rfl
    have z2 := xr.cell 2 rfl
    have z3 := xr.cell 3 rfl
    have z4 := xr.cell 4 rfl
    have hzz := xr.lt
    have hk1 : 1 ≤ kB4 x 1 := by
      have t3 := kPt_ge (fun i => pL (gq x.parts i)) (kB3 x 1) x.parts.length
      have t2 := kSp_ge (fun i => (gp x.spots i).may.length) (kB1 x 1) x.spots.length
      have e3 : kB3 x 1 = kB2 x 1 + x.valves.length := rfl
      have e1 : kB1 x 1 = 1 + (x.foes.length * 2 : Nat) := rfl
      have e2 : kB2 x 1 = kSp (fun i => (gp x.spots i).may.length) (kB1 x 1) x.spots.length := rfl
      have e4 : kB4 x 1 = kPt (fun i => pL (gq x.parts i)) (kB3 x 1) x.parts.length := rfl
      omega
    clear lw lb lg s34 s44 s45
    go_wp2_with fail
    refine (markBook_any x _ _ _ _ _ _ _ _ A1 C1 A2 C2 1 w8 ob8 (by omega) (by omega)).mono ?_
    rintro e w9 ⟨rfl, -, O9⟩
    obtain ⟨lw, lb, lg, s34, s44, s45⟩ := HL.out
    have HB9 := HB8.trans (O9.below (fun y hy => by have := lb y hy; omega) HB8.size)
    have ow9 := ow8.only O9 (fun y hy hy' => by have := lw y hy; have := lb y hy'; omega)
    have og9 := og8.only O9 (fun y hy hy' => by have := lg y hy; have := lb y hy'; omega)
    clear lw lb lg s34 s44 s45 O9 ob8 ow8 og8 xr z0 z1 z2 z3 z4 hzz HB8
    generalize kB4 x 1 = K at hk4 hk1 ⊢
    go_wp2_with fail
    refine (eqIntS_any ag aw cg cw (shutC x v) _ og9.rowAt ow9.rowAt (by unfold maxLen; omega)).mono ?_
    rintro e w10 ⟨rfl, hb⟩
    have HB10 := HB9.trans (hb.mono HB9.size)
    have ow10 := ow9.later hb
    have og10 := og9.later hb
    clear hb HB9 ow9 og9
    generalize hn : (shutC x v).length = n at hle og10 ow10 HL ⊢
    have HNn : Hid ((shutC x v).length = n) := hn
    clear hn
    go_wp2_with fail
    refine (markIntS_any ag n cg 1 w10 og10.slot (by omega) (by omega)).mono ?_
    rintro e w11 ⟨rfl, gg, O11⟩
    obtain ⟨lw, lb, lg, s34, s44, s45⟩ := HL.out
    have HB11 := HB10.trans (O11.below (fun y hy => by have := lg y hy; omega) HB10.size)
    have ow11 := ow10.only O11 (fun y hy hy' => by have := lw y hy; have := lg y hy'; omega)
    clear lw lb lg s34 s44 s45 O11 HB10 ow10 og10
    have nn0 : ¬ (1 : Int) + (n : Int) < 0 := by omega
    have nn1 : ((1 : Int) + (n : Int) != (1 : Int) + (n : Int)) = false := by simp
    go_wp2_with fail
    refine (heldIntS_any ag n cg 1 w11 gg (by omega) (by omega)).mono ?_
    rintro e w12 ⟨rfl, hb⟩
    have HB12 := HB11.trans (hb.mono HB11.size)
    have ow12 := ow11.later hb
    have gg12 := gg.later hb
    clear hb HB11 ow11 gg
    have bk := bookRow HB12
    have y0 := bk.cell 0 rfl
    have y1 := bk.cell 1 rfl
    have y2 := bk.cell 2 rfl
    have y3 := bk.cell 3 rfl
    have y4 := bk.cell 4 rfl
    have hz := bk.lt
    go_wp2_with fail
    refine (toClaimBook_any x af ap av aq cf cp cv cq _ (hin.later (below_over HB12)) R).mono ?_
    rintro e w13 ⟨⟨g0', g1', g2', g3', rfl, fr13⟩, hb⟩
    have in13 := fr13.in_
    have HB13 := HB12.trans (hb.mono HB12.size)
    have ow13 := ow12.later hb
    have gg13 := gg12.later hb
    clear hb HB12 ow12 gg12 fr13 bk y0 y1 y2 y3 y4 hz
    go_wp2_with fail
    refine (implShut_any x _ _ _ _ _ _ _ _ v _ in13 hf hp).mono ?_
    rw [HNn.out]
    rintro e w14 ⟨⟨ah, ch, rfl, oh, -⟩, hb⟩
    have HB14 := HB13.trans (hb.mono HB13.size)
    have ow14 := ow13.later hb
    have gg14 := gg13.later hb
    clear hb HB13 ow13 gg13 in13
    have heq := eqIntS_any ah aw ch cw (shutC x v) w14
    rw [HNn.out] at heq
    go_wp2_with fail
    refine (heq oh.rowAt ow14.rowAt (by unfold maxLen; omega)).mono ?_
    rintro e w15 ⟨rfl, hb⟩
    have HB15 := HB14.trans (hb.mono HB14.size)
    have gg15 := gg14.later hb
    clear hb HB14 ow14 gg14 oh heq
    go_wp2_with fail
    refine (heldIntS_any ag n cg 1 w15 gg15 (by omega) (by omega)).mono ?_
    rintro e w16 ⟨rfl, hb⟩
    have HB16 := HB15.trans (hb.mono HB15.size)
    clear hb HB15 gg15
    go_wp2
    go_ret
    exact ⟨rfl, below_over HB16⟩

end Go.Proofs.YtfmhkicncgccjabGreat

/- For every book, of whatever size, and every text, the law FnExactClaimShut returns true, and both read behind the call as before. -/
namespace Go.Proofs.YtfmhkicncgccjabGreat
open Go.RowKit Go.Sort
open Go.ChangeShapes Go.WideShapes Go.ChangeAt
set_option linter.unusedSimpArgs false
set_option linter.unusedVariables false

theorem own : ownKnob Tryz.prog.godebug = none := by kernel_rfl
theorem laidOut : laidOutB Tryz.prog = true := by kernel_rfl
set_option maxRecDepth 100000 in
theorem lifted (os : Os) (started : os.Started) (H : Type) (enc : TypeId × Value → H) :
    ReturnsInHanded {} Tryz.checked os 4 .any (Rows.fnExactClaimShutSpec.pre6 enc Tryz.prog Tryz.f4 Rows.fnExactClaimShutRow.domain false) (Rows.fnExactClaimShutSpec.post enc Tryz.prog Tryz.f4 false true false false) := by
  refine returnsInHanded_of_change (C := Tryz.checked) own started (by kernel_rfl) Tryz.func4
    (ChangeSpec.witness6 (enc := enc) (C := Tryz.checked) false ⟨#[], #[.agg #[.slice none 0 0, .slice none 0 0, .slice none 0 0, .slice none 0 0, .int .i64 0], .string .empty], []⟩ 8 (by kernel_rfl) (by kernel_rfl) (by kernel_rfl) (by kernel_rfl)) ?_
  intro W base args ds gs before hval0 hW _ _
  have hval : ∀ (j : Nat) t v, Tryz.f4.params[j]? = some t → args[j]? = some v → Value.okWide Tryz.prog W .any base t v := hval0
  have hW' := hW
  obtain ⟨p, q, hA0, hV, rfl, hfz, hnd⟩ := hW
  have hA : DataW.TrodAll enc Tryz.prog W 0 (fun _ => true) true Tryz.f4.params.toList args.toList ds p := hA0
  rw [Tryz.params4] at hA hval
  obtain ⟨v0, v1, d0, d1, p0, p1, rfl, rfl, rfl, h0, h1⟩ := trodAll_two hA
  obtain ⟨rfl, rfl⟩ := trodVars_none hV
  obtain ⟨x, af, ap, av, aq, cf, cp, cv, cq, rfl, hin, hfit⟩ := open_book (hval 0 27 v0 rfl rfl) h0
  obtain ⟨s, rfl, hd1, hp1, hs⟩ := Go.ChangeMaps.open_string Tryz.underlying9 (hval 1 9 v1 rfl rfl) h1
  clear hA0 hval0
  simp only [List.append_nil] at hW'
  have hlt : ∀ y ∈ p0 ++ p1, y.block < W.heap.size := fun y hy => by simpa using hW'.lt y hy
  refine (shutLaw_any x af ap av aq cf cp cv cq s W hin hfit hs).mono fun e W' ⟨he, hb⟩ => ?_
  subst he
  have k0 := Below.trod laidOut (by kernel_rfl) (of_decide_eq_true (by kernel_rfl)) h0 hb (fun y hy => hlt y (List.mem_append_left _ hy))
  have k1 := Below.trod laidOut (by kernel_rfl) (of_decide_eq_true (by kernel_rfl)) h1 hb (fun y hy => hlt y (List.mem_append_right _ hy))
  exact ⟨_, rfl, _, _, _, [], p0 ++ p1, [], hW', trodAll_mk1 (shut_bool Tryz.underlying4 _), trodAll_mk2 k0 k1, rfl, hb.frame _, fun h => by cases h⟩

theorem proved : Rows.FnExactClaimShutSaid :=
  OpenClaim.holds_of_wide 4 Tryz.f4 rfl rfl rfl rfl rfl rfl rfl ⟨rfl, rfl, rfl, rfl, rfl⟩ rfl rfl rfl rfl rfl (by kernel_rfl) Tryz.func4 (by kernel_rfl)
    (of_decide_eq_true (by kernel_rfl)) (by unfold Func.isWrapper; first | (rw [if_pos (by decide +kernel)]; kernel_rfl) | (rw [if_neg (by decide +kernel)]; exact ⟨rfl, rfl⟩))
    (fun os started H enc _ => lifted os started H enc)

end Go.Proofs.YtfmhkicncgccjabGreat

