/- Joined: OvM, OvS, DrFld, OrdG. -/
import Derived.Deep.RegionHeld3
import Derived.Test.YtfmhkicncgccjaaGreatFm47
import Derived.Test.YtfmhkicncgccjaaGreatFm20
import Derived.Test.YtfmhkicncgccjaaGreatFm10
import Derived.Test.YtfmhkicncgccjaaGreatFm05
import Derived.Test.YtfmhkicncgccjaaGreatFm26
/- What ClaimMay answers, the specification's and the program's. -/
namespace Go.Proofs.YtfmhkicncgccjaaGreat
open Go.RowKit Go.Sort
set_option linter.unusedSimpArgs false
set_option linter.unusedVariables false

theorem ret_intM {a b : Int} (h : a = b) : Ending.returned (.int .i64 a) = .returned (.int .i64 b) := by rw [h]

set_option maxRecDepth 100000 in
set_option maxHeartbeats 4000000 in
theorem specMay_any (x : Book) (af ap av aq : Option Addr) (cf cp cv cq : Nat) (v : ByteArray) (w : World) (hx : BookIn w x af ap av aq) (fx : BookFit x) :
 Calls Tryz.prog 9 #[bookV x af ap av aq cf cp cv cq, .string v] w fun e w' => e = .returned (.int .i64 (mayC x v)) ∧ Below w.heap.size w w' := by
 have lp : x.parts.length ≤ 9223372036854775807 := fx.parts.1
 have fo : ∀ p ∈ x.parts, WantFit p.want := fx.parts.2
 have HB0 : Below (w.alloc (.cells #[.slice af x.foes.length cf, .slice ap x.spots.length cp, .slice av x.valves.length cv, .slice aq x.parts.length cq, .int .i64 x.seen] 28)).heap.size (w.alloc (.cells #[.slice af x.foes.length cf, .slice ap x.spots.length cp, .slice av x.valves.length cv, .slice aq x.parts.length cq, .int .i64 x.seen] 28)) (w.alloc (.cells #[.slice af x.foes.length cf, .slice ap x.spots.length cp, .slice av x.valves.length cv, .slice aq x.parts.length cq, .int .i64 x.seen] 28)) := Below.refl _ _
 have hpm := hx.parts
 unfold bookV
 go_enter Tryz.func9, Tryz.ntmps9
 go_wp2_with fail
 refine (specBookOk_any x _ _ _ _ _ _ _ _ _ (hx.later (below_over HB0)) fx).mono ?_
 rintro e w1 ⟨rfl, hb⟩
 have HB1 := HB0.trans (hb.mono HB0.size)
 clear hx fx hb HB0
 cases hB : bookB x with
 | false =>
  go_wp2
  go_ret
  exact ⟨ret_intM (by simp [mayC, hB]), below_over HB1⟩
 | true =>
  have bk := bookRow HB1
  have hB1 := below_over HB1
  clear HB1
  go_wp2
  go_loopw [5] (fun i wr => ∃ (k : Nat) (X : World), X = wr ∧ k ≤ x.parts.length ∧ i = .int .i64 k ∧ allTo k (fun i => !mayHit v (gq x.parts i)) = true ∧ Row X w.heap.size 28 [.slice af x.foes.length cf, .slice ap x.spots.length cp, .slice av x.valves.length cv, .slice aq x.parts.length cq, .int .i64 x.seen] ∧ Below w.heap.size w X) (fun i _ => x.parts.length - (intOf i).toNat)
  case atStart => exact ⟨0, _, rfl, Nat.zero_le _, rfl, rfl, bk, hB1⟩
  case round =>
   obtain ⟨k, X, rfl, hk, rfl, hall, row, hbX⟩ := hrel
   have r3 := row.cell 3 rfl
   by_cases hlt : k < x.parts.length
   · obtain ⟨b, o, a2, a3, a4, a5, c2, c3, c4, c5, ha, hb, hc0, hc1, hc2, hc3, hc4, hc5, hc6, hst⟩ := (hpm.later hbX).at hlt
     subst ha
     have hlt2 : (k : Int) < x.parts.length := by omega
     have hop := hst.opens
     have lo := (fo _ (gq_mem hlt)).opens.1
     have hcall := l1Has_any a4 c4 (gq x.parts k).want.opens v X hop lo
     have hsh : mayHit v (gq x.parts k) = (!(gq x.parts k).stopped && hasB (gq x.parts k).want.opens v) := rfl
     clear hc1 hc2 hc3 hc5 hst hop lo
     generalize (gq x.parts k).stopped = st at hc6 hsh
     generalize hasB (gq x.parts k).want.opens v = hh at hcall hsh
     cases st with
     | true =>
      go_wp2
      go_roundw
      case rel => exact ⟨k + 1, _, rfl, by omega, by go_num, allTo_succ hall (by rw [hsh]; rfl), row, hbX⟩
      case measure => simp [intOf]; omega
     | false =>
      cases hh with
      | true =>
       go_wp2_with (go_at_call 29; refine hcall.mono ?_; rintro e w2 ⟨rfl, rfl⟩)
       go_ret
       exact ⟨ret_intM (by rw [mayC, if_pos hB, mayN_hit hlt hall hsh]), hbX⟩
      | false =>
       go_wp2_with (go_at_call 29; refine hcall.mono ?_; rintro e w2 ⟨rfl, rfl⟩)
       go_roundw
       case rel => exact ⟨k + 1, _, rfl, by omega, by go_num, allTo_succ hall (by rw [hsh]; rfl), row, hbX⟩
       case measure => simp [intOf]; omega
   · have : k = x.parts.length := by omega
     subst this
     go_wp2
     go_ret
     exact ⟨ret_intM (by rw [mayC, if_pos hB, mayN_none hall]), hbX⟩

set_option maxRecDepth 100000 in
set_option maxHeartbeats 4000000 in
theorem implMay_any (x : Book) (af ap av aq : Option Addr) (cf cp cv cq : Nat) (v : ByteArray) (w : World) (hx : BookIn w x af ap av aq) (fx : BookFit x) :
 Calls Tryz.prog 7 #[bookV x af ap av aq cf cp cv cq, .string v] w fun e w' => e = .returned (.int .i64 (mayC x v)) ∧ Below w.heap.size w w' := by
 have lp : x.parts.length ≤ 9223372036854775807 := fx.parts.1
 have fo : ∀ p ∈ x.parts, WantFit p.want := fx.parts.2
 have HB0 : Below (w.alloc (.cells #[.slice af x.foes.length cf, .slice ap x.spots.length cp, .slice av x.valves.length cv, .slice aq x.parts.length cq, .int .i64 x.seen] 28)).heap.size (w.alloc (.cells #[.slice af x.foes.length cf, .slice ap x.spots.length cp, .slice av x.valves.length cv, .slice aq x.parts.length cq, .int .i64 x.seen] 28)) (w.alloc (.cells #[.slice af x.foes.length cf, .slice ap x.spots.length cp, .slice av x.valves.length cv, .slice aq x.parts.length cq, .int .i64 x.seen] 28)) := Below.refl _ _
 have hpm := hx.parts
 unfold bookV
 go_enter Tryz.func7, Tryz.ntmps7
 go_wp2_with fail
 refine (implBookOk_any x _ _ _ _ _ _ _ _ _ (hx.later (below_over HB0)) fx).mono ?_
 rintro e w1 ⟨rfl, hb⟩
 have HB1 := HB0.trans (hb.mono HB0.size)
 clear hx fx hb HB0
 cases hB : bookB x with
 | false =>
  go_wp2
  go_ret
  exact ⟨ret_intM (by simp [mayC, hB]), below_over HB1⟩
 | true =>
  have bk := bookRow HB1
  have hB1 := below_over HB1
  clear HB1
  have y3 := bk.cell 3 rfl
  have hz := bk.lt
  go_wp2
  go_loopw [6, 13] (fun _ i wr => ∃ (k : Nat) (X : World), X = wr ∧ k ≤ x.parts.length ∧ i = .int .i64 k ∧ allTo k (fun i => !mayHit v (gq x.parts i)) = true ∧ Row X w.heap.size 28 [.slice af x.foes.length cf, .slice ap x.spots.length cp, .slice av x.valves.length cv, .slice aq x.parts.length cq, .int .i64 x.seen] ∧ Below w.heap.size w X) (fun _ i _ => x.parts.length - (intOf i).toNat)
  case atStart => exact ⟨0, _, rfl, Nat.zero_le _, rfl, rfl, bk, hB1⟩
  case round =>
   obtain ⟨k, X, rfl, hk, rfl, hall, row, hbX⟩ := hrel
   clear y3 hz bk
   have r3 := row.cell 3 rfl
   by_cases hlt : k < x.parts.length
   · obtain ⟨b, o, a2, a3, a4, a5, c2, c3, c4, c5, ha, hb, hc0, hc1, hc2, hc3, hc4, hc5, hc6, hst⟩ := (hpm.later hbX).at hlt
     subst ha
     have hlt2 : (k : Int) < x.parts.length := by omega
     have hop := hst.opens
     have lo := (fo _ (gq_mem hlt)).opens.1
     have vb : Below X.heap.size X (X.alloc (.cells #[.int .i64 (gq x.parts k).want.number, .int .i64 (gq x.parts k).want.kind, .slice a2 (gq x.parts k).want.stuffs.length c2, .slice a3 (gq x.parts k).want.uses.length c3, .slice a4 (gq x.parts k).want.opens.length c4, .slice a5 (gq x.parts k).want.shuts.length c5, .bool (gq x.parts k).stopped] 61)) := (Below.refl _ _).alloc (Nat.le_refl _) _
     have vr := row.later vb
     have vX := hbX.trans (vb.mono hbX.size)
     have hcall := contains_any a4 c4 (gq x.parts k).want.opens v _ (hop.later vb) lo
     have hsh : mayHit v (gq x.parts k) = (!(gq x.parts k).stopped && hasB (gq x.parts k).want.opens v) := rfl
     clear hst hop lo
     generalize (gq x.parts k).stopped = st at hc6 hsh vb vr vX hcall
     generalize hasB (gq x.parts k).want.opens v = hh at hcall hsh
     cases st with
     | true =>
      go_wp2
      go_roundw
      case rel => exact ⟨k + 1, _, rfl, by omega, by go_num, allTo_succ hall (by rw [hsh]; rfl), vr, vX⟩
      case measure => simp [intOf]; omega
     | false =>
      cases hh with
      | true =>
       go_wp2_with (go_at_call 28; refine hcall.mono ?_; rintro e w2 ⟨rfl, rfl⟩)
       go_ret
       exact ⟨ret_intM (by rw [mayC, if_pos hB, mayN_hit hlt hall hsh]), vX⟩
      | false =>
       go_wp2_with (go_at_call 28; refine hcall.mono ?_; rintro e w2 ⟨rfl, rfl⟩)
       go_roundw
       case rel => exact ⟨k + 1, _, rfl, by omega, by go_num, allTo_succ hall (by rw [hsh]; rfl), vr, vX⟩
       case measure => simp [intOf]; omega
   · have : k = x.parts.length := by omega
     subst this
     go_wp2
     go_ret
     exact ⟨ret_intM (by rw [mayC, if_pos hB, mayN_none hall]), hbX⟩

end Go.Proofs.YtfmhkicncgccjaaGreat

/- What ClaimShut answers, the specification's and the program's. -/
namespace Go.Proofs.YtfmhkicncgccjaaGreat
open Go.RowKit Go.Sort
set_option linter.unusedSimpArgs false
set_option linter.unusedVariables false

theorem infoInt : (Tryz.prog.info? 3).map (fun i => (i.zero, i.size, i.bytes)) = some (some (.int .i64 0), 1, 8) := by kernel_rfl
theorem owns_ints {w : World} {base : Nat} {v : Value} {l : List Int} (h : w.ownsRow base 3 1 v l.length (l.map (Value.int .i64))) : ∃ a c, v = .slice a l.length c ∧ OwnL w 3 1 a l.length (intF l) ∧ (∀ x, InSlot a l.length x → base ≤ x) ∧ l.length ≤ c := by
 refine OwnL.of_owns ?_
 have e : flat l.length 1 (intF l) = l.map (Value.int .i64) := by
  apply List.ext_getElem
  · simp [flat_length]
  · intro i h1 h2
    simp [flat, intF, Nat.div_one, List.getD_eq_getElem?_getD]
    have : i < l.length := by simpa using h2
    simp [this]
 rw [e]
 exact h

set_option maxRecDepth 100000 in
set_option maxHeartbeats 4000000 in
theorem specShut_any (x : Book) (af ap av aq : Option Addr) (cf cp cv cq : Nat) (v : ByteArray) (w : World) (hx : BookIn w x af ap av aq) (fx : BookFit x) (hp : x.parts.length ≤ 1048576) :
 Calls Tryz.prog 11 #[bookV x af ap av aq cf cp cv cq, .string v] w fun e w' => (∃ a c, e = .returned (.slice a (shutC x v).length c) ∧ OwnL w' 3 1 a (shutC x v).length (intF (shutC x v)) ∧ ∀ y, InSlot a (shutC x v).length y → w.heap.size ≤ y) ∧ Below w.heap.size w w' := by
 obtain ⟨i0, hi, hz0, hz1, hz2⟩ := info_parts infoInt
 have fo : ∀ p ∈ x.parts, WantFit p.want := fx.parts.2
 have hpm := hx.parts
 unfold bookV
 have v0 : Below w.heap.size w ((w.alloc (.cells #[.slice af x.foes.length cf, .slice ap x.spots.length cp, .slice av x.valves.length cv, .slice aq x.parts.length cq, .int .i64 x.seen] 28)).alloc (.cells #[] 3)) := ((Below.refl _ _).alloc (Nat.le_refl _) _).alloc (by simp) _
 have r0 : Row ((w.alloc (.cells #[.slice af x.foes.length cf, .slice ap x.spots.length cp, .slice av x.valves.length cv, .slice aq x.parts.length cq, .int .i64 x.seen] 28)).alloc (.cells #[] 3)) w.heap.size 28 [.slice af x.foes.length cf, .slice ap x.spots.length cp, .slice av x.valves.length cv, .slice aq x.parts.length cq, .int .i64 x.seen] := (Row.new _ _ _).alloc _
 have q0 : Row ((w.alloc (.cells #[.slice af x.foes.length cf, .slice ap x.spots.length cp, .slice av x.valves.length cv, .slice aq x.parts.length cq, .int .i64 x.seen] 28)).alloc (.cells #[] 3)) (w.heap.size + 1) 3 [] := by
  have := Row.new (w.alloc (.cells #[.slice af x.foes.length cf, .slice ap x.spots.length cp, .slice av x.valves.length cv, .slice aq x.parts.length cq, .int .i64 x.seen] 28)) 3 []
  simpa using this
 go_enter Tryz.func11, Tryz.ntmps11
 go_wp2_with fail
 refine (specBookOk_any x _ _ _ _ _ _ _ _ _ (hx.later v0) fx).mono ?_
 rintro e w1 ⟨rfl, hb⟩
 have hB1 := v0.trans (hb.mono v0.size)
 have bk := r0.later hb
 have qk := q0.later hb
 have own0 : w1.ownsRow (w.heap.size + 1) 3 1 (.slice (some ⟨w.heap.size + 1, 0, none⟩) 0 0) 0 [] := ⟨rfl, Or.inr ⟨w.heap.size + 1, 0, #[], rfl, Nat.le_refl _, qk, Nat.le_refl _, by unfold maxLen; omega, rfl, rfl⟩⟩
 clear hx fx hb r0 q0 qk v0
 cases hB : bookB x with
 | false =>
  go_wp2
  go_ret
  have e : shutC x v = [] := by simp [shutC, hB]
  rw [e]
  exact ⟨⟨_, _, rfl, Or.inl rfl, fun y hy => absurd rfl hy.1⟩, hB1⟩
 | true =>
  have eC : shutC x v = shutTo x.parts v x.parts.length := by simp [shutC, hB]
  go_wp2
  go_loopw [5, 6] (fun o i wr => ∃ (k : Nat) (X : World), X = wr ∧ k ≤ x.parts.length ∧ i = .int .i64 k ∧ X.ownsRow (w.heap.size + 1) 3 1 o (shutTo x.parts v k).length ((shutTo x.parts v k).map (Value.int .i64)) ∧ Row X w.heap.size 28 [.slice af x.foes.length cf, .slice ap x.spots.length cp, .slice av x.valves.length cv, .slice aq x.parts.length cq, .int .i64 x.seen] ∧ Below w.heap.size w X) (fun _ i _ => x.parts.length - (intOf i).toNat)
  case atStart => exact ⟨0, _, rfl, Nat.zero_le _, rfl, own0, bk, hB1⟩
  case round =>
   obtain ⟨k, X, rfl, hk, rfl, hown, row, hbX⟩ := hrel
   clear own0 bk hB1
   have r3 := row.cell 3 rfl
   have hlen := shutTo_le x.parts v k
   by_cases hlt : k < x.parts.length
   · obtain ⟨b, o, a2, a3, a4, a5, c2, c3, c4, c5, ha, hb, hc0, hc1, hc2, hc3, hc4, hc5, hc6, hst⟩ := (hpm.later hbX).at hlt
     subst ha
     have hlt2 : (k : Int) < x.parts.length := by omega
     have hcall := l1Has_any a5 c5 (gq x.parts k).want.shuts v X hst.shuts (fo _ (gq_mem hlt)).shuts.1
     clear hc1 hc2 hc3 hc4 hc6 hst
     cases hh : hasB (gq x.parts k).want.shuts v with
     | true =>
      rw [hh] at hcall
      have HS : Hid (shutTo x.parts v (k + 1) = shutTo x.parts v k ++ [(gq x.parts k).want.number]) := shutTo_hit hh
      clear hh
      generalize (gq x.parts k).want.number = num at hc0 HS
      go_wp2_with (first
       | (go_at_call 29; refine hcall.mono ?_; rintro e w2 ⟨rfl, rfl⟩)
       | (at_builtin; refine wpList_append_own _ rfl _ _ 32 rfl (w.heap.size + 1) 3 i0 (.int .i64 0) 1 8 Tryz.underlying32 hi hz0 hz1 hz2 rfl (by decide) _ _ _ rfl (hown.alloc _) ⟨X.heap.size, 0, none⟩ 1 1 [.int .i64 num] rfl rfl ?c1 ?c2 ?c3 ?c4 ?c5 ?_))
      case c1 =>
       intro j u hj
       match j, hj with
       | 0, hj => simp at hj; subst hj; simp [Addr.add]
      case c2 => intro u hu; simp at hu; subst hu; rfl
      case c3 => unfold maxLen; omega
      case c4 => omega
      case c5 => have := row.lt; simp; omega
      intro v' w2 hown' hgrow _
      have hb2 := (hbX.alloc hbX.size _).grown hgrow (by have := hbX.size; simp; omega) (fun g hg => by have := (hown.alloc (.cells #[.int .i64 num] 3)).lt g hg; omega)
      have row2 := (row.alloc (.cells #[.int .i64 num] 3)).grown hgrow (fun e => by have := (hown.alloc (.cells #[.int .i64 num] 3)).lt _ e.symm; omega)
      clear hown hgrow row hcall r3 hc0 hc5
      go_wp2
      go_roundw
      case rel => exact ⟨k + 1, _, rfl, by omega, by go_num, by rw [HS.out]; simpa using hown', row2, hb2⟩
      case measure => simp [intOf]; omega
     | false =>
      rw [hh] at hcall
      have HS : Hid (shutTo x.parts v (k + 1) = shutTo x.parts v k) := shutTo_miss hh
      clear hh
      go_wp2_with (go_at_call 29; refine hcall.mono ?_; rintro e w2 ⟨rfl, rfl⟩)
      go_roundw
      case rel => exact ⟨k + 1, _, rfl, by omega, by go_num, by rw [HS.out]; exact hown, row, hbX⟩
      case measure => simp [intOf]; omega
   · have : k = x.parts.length := by omega
     subst this
     obtain ⟨a, c, rfl, ho, hy, _⟩ := owns_ints hown
     go_wp2
     go_ret
     rw [eC]
     exact ⟨⟨a, c, rfl, ho, fun y h => by have := hy y h; omega⟩, hbX⟩

set_option maxRecDepth 100000 in
set_option maxHeartbeats 4000000 in
theorem implShut_any (x : Book) (af ap av aq : Option Addr) (cf cp cv cq : Nat) (v : ByteArray) (w : World) (hx : BookIn w x af ap av aq) (fx : BookFit x) (hp : x.parts.length ≤ 1048576) :
 Calls Tryz.prog 8 #[bookV x af ap av aq cf cp cv cq, .string v] w fun e w' => (∃ a c, e = .returned (.slice a (shutC x v).length c) ∧ OwnL w' 3 1 a (shutC x v).length (intF (shutC x v)) ∧ ∀ y, InSlot a (shutC x v).length y → w.heap.size ≤ y) ∧ Below w.heap.size w w' := by
 obtain ⟨i0, hi, hz0, hz1, hz2⟩ := info_parts infoInt
 have fo : ∀ p ∈ x.parts, WantFit p.want := fx.parts.2
 have hpm := hx.parts
 unfold bookV
 have v0 : Below w.heap.size w (w.alloc (.cells #[.slice af x.foes.length cf, .slice ap x.spots.length cp, .slice av x.valves.length cv, .slice aq x.parts.length cq, .int .i64 x.seen] 28)) := (Below.refl _ _).alloc (Nat.le_refl _) _
 have r0 := Row.new w 28 [.slice af x.foes.length cf, .slice ap x.spots.length cp, .slice av x.valves.length cv, .slice aq x.parts.length cq, .int .i64 x.seen]
 go_enter Tryz.func8, Tryz.ntmps8
 go_wp2_with fail
 refine (implBookOk_any x _ _ _ _ _ _ _ _ _ (hx.later v0) fx).mono ?_
 rintro e w1 ⟨rfl, hb⟩
 have hB1 := v0.trans (hb.mono v0.size)
 have bk := r0.later hb
 have own0 : w1.ownsRow (w.heap.size + 1) 3 1 (.slice none 0 0) 0 [] := World.ownsRow_nil _ _ _ _
 clear hx fx hb r0 v0
 cases hB : bookB x with
 | false =>
  go_wp2
  go_ret
  have e : shutC x v = [] := by simp [shutC, hB]
  rw [e]
  exact ⟨⟨_, _, rfl, Or.inl rfl, fun y hy => absurd rfl hy.1⟩, hB1⟩
 | true =>
  have eC : shutC x v = shutTo x.parts v x.parts.length := by simp [shutC, hB]
  have y3 := bk.cell 3 rfl
  have hz := bk.lt
  go_wp2
  go_loopw [5, 7, 14] (fun o _ i wr => ∃ (k : Nat) (X : World), X = wr ∧ k ≤ x.parts.length ∧ i = .int .i64 k ∧ X.ownsRow (w.heap.size + 1) 3 1 o (shutTo x.parts v k).length ((shutTo x.parts v k).map (Value.int .i64)) ∧ Row X w.heap.size 28 [.slice af x.foes.length cf, .slice ap x.spots.length cp, .slice av x.valves.length cv, .slice aq x.parts.length cq, .int .i64 x.seen] ∧ Below w.heap.size w X) (fun _ _ i _ => x.parts.length - (intOf i).toNat)
  case atStart => exact ⟨0, _, rfl, Nat.zero_le _, rfl, own0, bk, hB1⟩
  case round =>
   obtain ⟨k, X, rfl, hk, rfl, hown, row, hbX⟩ := hrel
   clear own0 bk hB1 y3 hz
   have r3 := row.cell 3 rfl
   have hlen := shutTo_le x.parts v k
   by_cases hlt : k < x.parts.length
   · obtain ⟨b, o, a2, a3, a4, a5, c2, c3, c4, c5, ha, hb, hc0, hc1, hc2, hc3, hc4, hc5, hc6, hst⟩ := (hpm.later hbX).at hlt
     subst ha
     have hlt2 : (k : Int) < x.parts.length := by omega
     have vb : Below X.heap.size X (X.alloc (.cells #[.int .i64 (gq x.parts k).want.number, .int .i64 (gq x.parts k).want.kind, .slice a2 (gq x.parts k).want.stuffs.length c2, .slice a3 (gq x.parts k).want.uses.length c3, .slice a4 (gq x.parts k).want.opens.length c4, .slice a5 (gq x.parts k).want.shuts.length c5, .bool (gq x.parts k).stopped] 61)) := (Below.refl _ _).alloc (Nat.le_refl _) _
     have vr := row.later vb
     have vX := hbX.trans (vb.mono hbX.size)
     have vo := hown.alloc (.cells #[.int .i64 (gq x.parts k).want.number, .int .i64 (gq x.parts k).want.kind, .slice a2 (gq x.parts k).want.stuffs.length c2, .slice a3 (gq x.parts k).want.uses.length c3, .slice a4 (gq x.parts k).want.opens.length c4, .slice a5 (gq x.parts k).want.shuts.length c5, .bool (gq x.parts k).stopped] 61)
     have hcall := contains_any a5 c5 (gq x.parts k).want.shuts v _ (hst.shuts.later vb) (fo _ (gq_mem hlt)).shuts.1
     clear hst hown row hbX vb
     cases hh : hasB (gq x.parts k).want.shuts v with
     | true =>
      rw [hh] at hcall
      have HS : Hid (shutTo x.parts v (k + 1) = shutTo x.parts v k ++ [(gq x.parts k).want.number]) := shutTo_hit hh
      clear hh
      generalize (gq x.parts k).want.number = num at hc0 HS vo vr vX hcall
      go_wp2_with (first
       | (go_at_call 28; refine hcall.mono ?_; rintro e w2 ⟨rfl, rfl⟩)
       | (at_builtin; refine wpList_append_own _ rfl _ _ 32 rfl (w.heap.size + 1) 3 i0 (.int .i64 0) 1 8 Tryz.underlying32 hi hz0 hz1 hz2 rfl (by decide) _ _ _ rfl (vo.alloc _) ⟨X.heap.size + 1, 0, none⟩ 1 1 [.int .i64 num] rfl rfl ?c1 ?c2 ?c3 ?c4 ?c5 ?_))
      case c1 =>
       intro j u hj
       match j, hj with
       | 0, hj => simp at hj; subst hj; simp [Addr.add, World.cell?_alloc_new]
      case c2 => intro u hu; simp at hu; subst hu; rfl
      case c3 => unfold maxLen; omega
      case c4 => omega
      case c5 => have := vr.lt; simp at this ⊢; omega
      intro v' w2 hown' hgrow _
      have hb2 := (vX.alloc vX.size _).grown hgrow (by have := vX.size; simp at this ⊢; omega) (fun g hg => by have := (vo.alloc (.cells #[.int .i64 num] 3)).lt g hg; omega)
      have row2 := (vr.alloc (.cells #[.int .i64 num] 3)).grown hgrow (fun e => by have := (vo.alloc (.cells #[.int .i64 num] 3)).lt _ e.symm; omega)
      clear vo hgrow vr vX hcall r3
      go_wp2
      go_roundw
      case rel => exact ⟨k + 1, _, rfl, by omega, by go_num, by rw [HS.out]; simpa using hown', row2, hb2⟩
      case measure => simp [intOf]; omega
     | false =>
      rw [hh] at hcall
      have HS : Hid (shutTo x.parts v (k + 1) = shutTo x.parts v k) := shutTo_miss hh
      clear hh
      go_wp2_with (go_at_call 28; refine hcall.mono ?_; rintro e w2 ⟨rfl, rfl⟩)
      go_roundw
      case rel => exact ⟨k + 1, _, rfl, by omega, by go_num, by rw [HS.out]; exact vo, vr, vX⟩
      case measure => simp [intOf]; omega
   · have : k = x.parts.length := by omega
     subst this
     obtain ⟨a, c, rfl, ho, hy, _⟩ := owns_ints hown
     go_wp2
     go_ret
     rw [eC]
     exact ⟨⟨a, c, rfl, ho, fun y h => by have := hy y h; omega⟩, hbX⟩

end Go.Proofs.YtfmhkicncgccjaaGreat

/- The list of opened valves, taken of a want's value. -/
namespace Go.Proofs.YtfmhkicncgccjaaGreat
open Go.RowKit Go.Sort
set_option linter.unusedSimpArgs false
set_option linter.unusedVariables false

theorem opens_field (W : World) (n k : Int) (d2 d3 d4 d5 : Option Addr) (l2 l3 l4 l5 k2 k3 k4 k5 : Nat) :
 Sem.run Tryz.prog (Instr.field 38 (.agg #[.int .i64 n, .int .i64 k, .slice d2 l2 k2, .slice d3 l3 k3, .slice d4 l4 k4, .slice d5 l5 k5]) 4) W = .ok (.slice d4 l4 k4) W := by
 unfold Instr.field
 simp [go_sem, Tryz.underlying38, asAgg, Sem.run_pure, Result.andThen]

end Go.Proofs.YtfmhkicncgccjaaGreat

/- A region that writes nothing: what is held is asked behind every operation. -/
namespace Go.Proofs.YtfmhkicncgccjaaGreat
set_option linter.unusedSimpArgs false
set_option linter.unusedVariables false

theorem wpAnyE_firstN {P : Program} {md : Region.Mode} {ops : Array Oper} {Q : Exit → Act → World → Prop} {S : World → Prop} {d i : Nat} {oi : Oper} {v : Value} (hi : ops[i]? = some oi) (hsel : ∀ (j : Nat) (o : Oper) cs b, ops[j]? = some o → o.op ≠ .select cs b)
 (hQ : ∀ c a w, Q (.panic c) (a.put oi.dst v) w → Q (.panic c) a w) (hd : ops[d]? = none) (fuel : Nat) :
 ∀ (listed : Array Bool) (a : Act) (w : World),
  (∀ j oj, ops[j]? = some oj → j ≠ i → listed.getD j true = false → (∀ e ∈ oj.after, Region.binds md e = true → e.on ≠ i) → oi.apart ops oj = true) →
  i ∈ Region.ready md ops listed → YieldsIf P ops S oi v a → S w → i ≠ d →
  wpAnyE P md ops Q S d fuel (listed.setIfInBounds i true) (a.put oi.dst v) w → wpAnyE P md ops Q S d (fuel + 1) listed a w := by
 induction fuel with
 | zero =>
  intro listed a w _ hr hy hS hid H
  refine ⟨fun h => absurd hr (by rw [h]; exact List.not_mem_nil), fun j hj => ?_⟩
  by_cases hji : j = i
  · rw [hji]
    exact hy.wpOp hi hS ⟨fun _ => hS, H⟩
  · exact absurd (ready_mono hj hji) (by rw [H.1]; exact List.not_mem_nil)
 | succ fuel ih =>
  intro listed a w hfree hr hy hS hid H
  refine ⟨fun h => absurd hr (by rw [h]; exact List.not_mem_nil), fun j hj => ?_⟩
  by_cases hji : j = i
  · rw [hji]
    exact hy.wpOp hi hS ⟨fun _ => hS, H⟩
  · obtain ⟨hjun, oj, hoj, -⟩ := mem_ready.1 hj
    have hjd : j ≠ d := by
     rintro rfl
     rw [hd] at hoj
     cases hoj
    have step := wpOp_putIf hoj (hfree j oj hoj hji hjun (fun e he hb => unlisted_not hr hj hoj he hb)) (fun cs b => hsel i oi cs b hi) (fun cs b => hsel j oj cs b hoj) hQ hy (H.2 j (ready_mono hj hji))
    refine wpOp_mono (fun a' w' hh => ⟨fun _ => hh.2.1 hjd, ih _ a' w' (fun k ok hk hki hun hno => hfree k ok hk hki ?_ hno) (ready_mono hr (Ne.symm hji)) hh.1 (hh.2.1 hjd) hid ?_⟩) step
    · by_cases hjk : j = k
      · rw [← hjk]; exact hjun
      · rwa [getD_set_ne true hjk] at hun
    · rw [Array.setIfInBounds_comm _ _ hji]
      exact hh.2.2
/-- Number i is taken first; d is no operation's number. -/
theorem wpAnyE_takeN {P : Program} {md : Region.Mode} {ops : Array Oper} {Q : Exit → Act → World → Prop} {S : World → Prop} {d i fuel : Nat} {t : Tmp} {op : Op} {ty : TypeId} {pos : String} {after : Array Edge} {guard : Option (Nat × Bool)} {v : Value} {listed : Array Bool} {a : Act} {w : World} (hi : ops[i]? = some ⟨some t, op, ty, pos, after, guard⟩)
 (hs : Region.noSelect ops = true) (hf : Region.free md ops listed i = true) (hr : (Region.ready md ops listed).contains i = true) (hd : ops[d]? = none) (hid : (i == d) = false)
 (hQ : ∀ c a w, Q (.panic c) (a.put (some t) v) w → Q (.panic c) a w) (hy : YieldsIf P ops S ⟨some t, op, ty, pos, after, guard⟩ v a) (hS : S w)
 (h : wpAnyE P md ops Q S d fuel (listed.setIfInBounds i true) (a.put (some t) v) w) : wpAnyE P md ops Q S d (fuel + 1) listed a w :=
 wpAnyE_firstN hi (Region.noSelect_spec hs) hQ hd fuel listed a w (Region.free_spec hi hf) (by simpa using hr) hy hS (by simpa using hid) h

end Go.Proofs.YtfmhkicncgccjaaGreat

