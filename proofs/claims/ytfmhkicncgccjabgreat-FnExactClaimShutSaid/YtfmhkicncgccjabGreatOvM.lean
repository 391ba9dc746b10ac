/- What ClaimMay answers, the specification's and the program's. -/
import Derived.Test.YtfmhkicncgccjabGreatOvP
import Derived.Test.YtfmhkicncgccjabGreatBkSA
import Derived.Deep.RegionHeld3
namespace Go.Proofs.YtfmhkicncgccjabGreat
open Go.RowKit Go.Sort
set_option linter.unusedSimpArgs false
set_option linter.unusedVariables false

theorem ret_intM {a b : Int} (h : a = b) : Ending.returned (.int .i64 a) = .returned (.int .i64 b) := by rw [h]

set_option maxRecDepth 100000 in
set_option maxHeartbeats 4000000 in
theorem specMay_any (x : Book) (af ap av aq : Option Addr) (cf cp cv cq : Nat) (v : ByteArray) (w : World) (hx : BookIn w x af ap av aq) (fx : BookFit x) :
    Calls Tryz.prog 6 #[bookV x af ap av aq cf cp cv cq, .string v] w fun e w' => e = .returned (.int .i64 (mayC x v)) ∧ Below w.heap.size w w' := by
  have lp : x.parts.length ≤ 9223372036854775807 := fx.parts.1
  have fo : ∀ p ∈ x.parts, WantFit p.want := fx.parts.2
  have HB0 : Below (w.alloc (.cells #[.slice af x.foes.length cf, .slice ap x.spots.length cp, .slice av x.valves.length cv, .slice aq x.parts.length cq, .int .i64 x.seen] 34)).heap.size (w.alloc (.cells #[.slice af x.foes.length cf, .slice ap x.spots.length cp, .slice av x.valves.length cv, .slice aq x.parts.length cq, .int .i64 x.seen] 34)) (w.alloc (.cells #[.slice af x.foes.length cf, .slice ap x.spots.length cp, .slice av x.valves.length cv, .slice aq x.parts.length cq, .int .i64 x.seen] 34)) := Below.refl _ _
  have hpm := hx.parts
  unfold bookV
  go_enter Tryz.func6, Tryz.ntmps6
  go_wp2_with fail
  refine (specBookOk_any x _ _ _ _ _ _ _ _ _ (hx.later (below_over HB0)) fx).mono ?_
  rintro e w1 ⟨rfl, hb⟩
  have HB1 := HB0.trans (hb.mono HB0.size)
  clear hx fx hb HB0
  cases hB : bookB x with
  | false =>
    go_wp2
    go_ret
    exact ⟨ret_intM (by simp [mayC, hB]), below_over HB1⟩
  | true =>
    have bk := bookRow HB1
    have hB1 := below_over HB1
    clear HB1
    go_wp2
    go_loopw [5] (fun i wr => ∃ (k : Nat) (X : World), X = wr ∧ k ≤ x.parts.length ∧ i = .int .i64 k ∧ allTo k (fun i => !mayHit v (gq x.parts i)) = true ∧ Row X w.heap.size 34 [.slice af x.foes.length cf, .slice ap x.spots.length cp, .slice av x.valves.length cv, .slice aq x.parts.length cq, .int .i64 x.seen] ∧ Below w.heap.size w X) (fun i _ => x.parts.length - (intOf i).toNat)
    case atStart => exact ⟨0, _, rfl, Nat.zero_le _, rfl, rfl, bk, hB1⟩
    case round =>
      obtain ⟨k, X, rfl, hk, rfl, hall, row, hbX⟩ := hrel
      have r3 := row.cell 3 rfl
      by_cases hlt : k < x.parts.length
      · obtain ⟨b, o, a2, a3, a4, a5, c2, c3, c4, c5, ha, hb, hc0, hc1, hc2, hc3, hc4, hc5, hc6, hst⟩ := (hpm.later hbX).at hlt
        subst ha
        have hlt2 : (k : Int) < x.parts.length := by omega
        have hop := hst.opens
        have lo := (fo _ (gq_mem hlt)).opens.1
        have hcall := l1Has_any a4 c4 (gq x.parts k).want.opens v X hop lo
        have hsh : mayHit v (gq x.parts k) = (!(gq x.parts k).stopped && hasB (gq x.parts k).want.opens v) := rfl
        clear hc1 hc2 hc3 hc5 hst hop lo
        generalize (gq x.parts k).stopped = st at hc6 hsh
        generalize hasB (gq x.parts k).want.opens v = hh at hcall hsh
        cases st with
        | true =>
          go_wp2
          go_roundw
          case rel => exact ⟨k + 1, _, rfl, by omega, by go_num, allTo_succ hall (by rw [hsh]; rfl), row, hbX⟩
          case measure => simp [intOf]; omega
        | false =>
          cases hh with
          | true =>
            go_wp2_with (go_at_call 21; refine hcall.mono ?_; rintro e w2 ⟨rfl, rfl⟩)
            go_ret
            exact ⟨ret_intM (by rw [mayC, if_pos hB, mayN_hit hlt hall hsh]), hbX⟩
          | false =>
            go_wp2_with (go_at_call 21; refine hcall.mono ?_; rintro e w2 ⟨rfl, rfl⟩)
            go_roundw
            case rel => exact ⟨k + 1, _, rfl, by omega, by go_num, allTo_succ hall (by rw [hsh]; rfl), row, hbX⟩
            case measure => simp [intOf]; omega
      · have : k = x.parts.length := by omega
        subst this
        go_wp2
        go_ret
        exact ⟨ret_intM (by rw [mayC, if_pos hB, mayN_none hall]), hbX⟩

set_option maxRecDepth 100000 in
set_option maxHeartbeats 4000000 in
theorem implMay_any (x : Book) (af ap av aq : Option Addr) (cf cp cv cq : Nat) (v : ByteArray) (w : World) (hx : BookIn w x af ap av aq) (fx : BookFit x) :
    Calls Tryz.prog 8 #[bookV x af ap av aq cf cp cv cq, .string v] w fun e w' => e = .returned (.int .i64 (mayC x v)) ∧ Below w.heap.size w w' := by
  have lp : x.parts.length ≤ 9223372036854775807 := fx.parts.1
  have fo : ∀ p ∈ x.parts, WantFit p.want := fx.parts.2
  have HB0 : Below (w.alloc (.cells #[.slice af x.foes.length cf, .slice ap x.spots.length cp, .slice av x.valves.length cv, .slice aq x.parts.length cq, .int .i64 x.seen] 34)).heap.size (w.alloc (.cells #[.slice af x.foes.length cf, .slice ap x.spots.length cp, .slice av x.valves.length cv, .slice aq x.parts.length cq, .int .i64 x.seen] 34)) (w.alloc (.cells #[.slice af x.foes.length cf, .slice ap x.spots.length cp, .slice av x.valves.length cv, .slice aq x.parts.length cq, .int .i64 x.seen] 34)) := Below.refl _ _
  have hpm := hx.parts
  unfold bookV
  go_enter Tryz.func8, Tryz.ntmps8
  go_wp2_with fail
  refine (implBookOk_any x _ _ _ _ _ _ _ _ _ (hx.later (below_over HB0)) fx).mono ?_
  rintro e w1 ⟨rfl, hb⟩
  have HB1 := HB0.trans (hb.mono HB0.size)
  clear hx fx hb HB0
  cases hB : bookB x with
  | false =>
    go_wp2
    go_ret
    exact ⟨ret_intM (by simp [mayC, hB]), below_over HB1⟩
  | true =>
    have bk := bookRow HB1
    have hB1 := below_over HB1
    clear HB1
    have y3 := bk.cell 3 rfl
    have hz := bk.lt
    go_wp2
    go_loopw [6, 13] (fun _ i wr => ∃ (k : Nat) (X : World), X = wr ∧ k ≤ x.parts.length ∧ i = .int .i64 k ∧ allTo k (fun i => !mayHit v (gq x.parts i)) = true ∧ Row X w.heap.size 34 [.slice af x.foes.length cf, .slice ap x.spots.length cp, .slice av x.valves.length cv, .slice aq x.parts.length cq, .int .i64 x.seen] ∧ Below w.heap.size w X) (fun _ i _ => x.parts.length - (intOf i).toNat)
    case atStart => exact ⟨0, _, rfl, Nat.zero_le _, rfl, rfl, bk, hB1⟩
    case round =>
      obtain ⟨k, X, rfl, hk, rfl, hall, row, hbX⟩ := hrel
      clear y3 hz bk
      have r3 := row.cell 3 rfl
      by_cases hlt : k < x.parts.length
      · obtain ⟨b, o, a2, a3, a4, a5, c2, c3, c4, c5, ha, hb, hc0, hc1, hc2, hc3, hc4, hc5, hc6, hst⟩ := (hpm.later hbX).at hlt
        subst ha
        have hlt2 : (k : Int) < x.parts.length := by omega
        have hop := hst.opens
        have lo := (fo _ (gq_mem hlt)).opens.1
        have vb : Below X.heap.size X (X.alloc (.cells #[.int .i64 (gq x.parts k).want.number, .int .i64 (gq x.parts k).want.kind, .slice a2 (gq x.parts k).want.stuffs.length c2, .slice a3 (gq x.parts k).want.uses.length c3, .slice a4 (gq x.parts k).want.opens.length c4, .slice a5 (gq x.parts k).want.shuts.length c5, .bool (gq x.parts k).stopped] 52)) := (Below.refl _ _).alloc (Nat.le_refl _) _
        have vr := row.later vb
        have vX := hbX.trans (vb.mono hbX.size)
        have hcall := contains_any a4 c4 (gq x.parts k).want.opens v _ (hop.later vb) lo
        have hsh : mayHit v (gq x.parts k) = (!(gq x.parts k).stopped && hasB (gq x.parts k).want.opens v) := rfl
        clear hst hop lo
        generalize (gq x.parts k).stopped = st at hc6 hsh vb vr vX hcall
        generalize hasB (gq x.parts k).want.opens v = hh at hcall hsh
        cases st with
        | true =>
          go_wp2
          go_roundw
          case rel => exact ⟨k + 1, _, rfl, by omega, by go_num, allTo_succ hall (by rw [hsh]; rfl), vr, vX⟩
          case measure => simp [intOf]; omega
        | false =>
          cases hh with
          | true =>
            go_wp2_with (go_at_call 27; refine hcall.mono ?_; rintro e w2 ⟨rfl, rfl⟩)
            go_ret
            exact ⟨ret_intM (by rw [mayC, if_pos hB, mayN_hit hlt hall hsh]), vX⟩
          | false =>
            go_wp2_with (go_at_call 27; refine hcall.mono ?_; rintro e w2 ⟨rfl, rfl⟩)
            go_roundw
            case rel => exact ⟨k + 1, _, rfl, by omega, by go_num, allTo_succ hall (by rw [hsh]; rfl), vr, vX⟩
            case measure => simp [intOf]; omega
      · have : k = x.parts.length := by omega
        subst this
        go_wp2
        go_ret
        exact ⟨ret_intM (by rw [mayC, if_pos hB, mayN_none hall]), hbX⟩

end Go.Proofs.YtfmhkicncgccjabGreat
