/- Joined: CdV, CdW. -/
import Derived.Test.YtfmhkicncgccjaaGreatDoorPd14
import Derived.Test.YtfmhkicncgccjaaGreatDoorPd13
import Derived.Lib.ItoaLen
/- What the program's firstReason answers. -/
namespace Go.Proofs.YtfmhkicncgccjaaGreatDoor
open Go.RowKit Go.Sort
set_option linter.unusedSimpArgs false
set_option linter.unusedVariables false
attribute [local go_sem] Oper.semAt_some

/-- The library's table of powers of ten is as it is laid. -/
def TabW (w : World) : Prop := Lib.TabIs Tryz.prog w "internal/strconv.uint64pow10" .u64 Lib.pow10Tab

theorem itoa_any (n : Int) (h0 : -9223372036854775808 ≤ n) (h1 : n ≤ 9223372036854775807) (w : World) (ht : TabW w) :
    Calls Tryz.prog 81 #[.int .i64 n] w fun e w' => (∃ s : ByteArray, e = .returned (.string s) ∧ s.size ≤ 21) ∧ Below w.heap.size w w' := by
  refine Calls.mono (Any.strconv_Itoa Tryz.laysItoa n h0 h1 w ht) ?_
  rintro e w' ⟨rfl, k, os, rfl⟩
  exact ⟨⟨_, rfl, by simpa [ByteArray.size] using Lib.itoa_length_le n h0 h1⟩, below_regrown w (w.drewN k).drawn os⟩

theorem looks_any (x : Book) (af ap av aq : Option Addr) (cf cp cv cq : Nat) (y : Want) (a2 a3 a4 a5 : Option Addr) (c2 c3 c4 c5 : Nat) (w : World) :
    Calls Tryz.prog 79 #[bookV x af ap av aq cf cp cv cq, wantW y a2 a3 a4 a5 c2 c3 c4 c5] w fun e w' => e = .returned (.func (.func 105) #[] #[.pointer (some ⟨w.heap.size, 0, none⟩), .pointer (some ⟨w.heap.size + 1, 0, none⟩)]) ∧ w' = (w.alloc (.cells (bookL x af ap av aq cf cp cv cq).toArray 38)).alloc (.cells (wantL y a2 a3 a4 a5 c2 c3 c4 c5).toArray 42) := by
  unfold bookV wantW
  go_enter Tryz.func79, Tryz.ntmps79
  go_wp2
  go_ret
  exact ⟨rfl, rfl⟩

theorem TabW.later {w w' : World} (h : TabW w) (hb : Below w.heap.size w w') : TabW w' := by
  unfold TabW Lib.TabIs World.var? at *
  cases hg : Tryz.prog.globalNamed "internal/strconv.uint64pow10" with
  | none => simp [hg] at h
  | some g =>
    simp only [hg, Option.bind_some] at h ⊢
    have hlt : g < w.heap.size := by
      rcases Nat.lt_or_ge g w.heap.size with hl | hl
      · exact hl
      · rw [Array.getElem?_eq_none hl] at h; cases h
    rw [hb.block g hlt]
    exact h

theorem looks_shape {x : Book} {y : Want} {v : Value} (h : looksO x y = some v) : ∃ t u, v = .iface t u := by
  rcases looks_code x y with ⟨h1, -⟩ | h1 | ⟨s, h1⟩
  · rw [h1] at h; cases h
  · rw [h1] at h; cases h; exact ⟨_, _, rfl⟩
  · rw [h1] at h; cases h; exact ⟨_, _, rfl⟩

theorem keeps_set {B : Nat} {W W1 : World} (hb : Below W.heap.size W W1) {b : Nat} (hbB : b < B) (v : Value) : KeepsHigh B W (W1.setCell ⟨b, 0, none⟩ v) := by
  refine ⟨by simpa [World.setCell] using hb.size, fun k h1 h2 => ?_⟩
  rw [Go.Deep.blk_setCell_other _ _ _ _ (show k ≠ b by omega)]
  exact hb.block k h2

/-- What firstReason hands back. -/
def FirstW (x : Book) (y : Want) (r : Value) : Prop := (looksO x y = none ∧ r = .nilIface) ∨ ∃ v s, looksO x y = some v ∧ r = aboutV s v

set_option maxRecDepth 100000 in
set_option maxHeartbeats 8000000 in
theorem firstReason_any (x : Book) (af ap av aq : Option Addr) (cf cp cv cq : Nat) (y : Want) (ad2 : Addr) (a3 a4 a5 : Option Addr) (c2 c3 c4 c5 : Nat) (w : World) (hx : BookIn w x af ap av aq) (fx : BookFit x) (hy : WantIn w y (some ad2) a3 a4 a5) (fy : WantFit y) (hcap : y.stuffs.length ≤ c2) (n0 : -9223372036854775808 ≤ y.number) (n1 : y.number ≤ 9223372036854775807) (ht : TabW w)
    (hfirst : ∀ (bb bw : Nat) (w0 : World), Row w0 bb 38 (bookL x af ap av aq cf cp cv cq) → Row w0 bw 42 (wantL y (some ad2) a3 a4 a5 c2 c3 c4 c5) → BookIn w0 x af ap av aq → WantIn w0 y (some ad2) a3 a4 a5 → FirstC Tryz.prog 105 #[.pointer (some ⟨bb, 0, none⟩), .pointer (some ⟨bw, 0, none⟩)] w0 (looksO x y)) :
    Calls Tryz.prog 39 #[bookV x af ap av aq cf cp cv cq, wantW y (some ad2) a3 a4 a5 c2 c3 c4 c5] w fun e w' => (∃ r, e = .returned r ∧ FirstW x y r) ∧ Below w.heap.size w w' := by
  unfold bookV wantW
  refine (callsIn_wide (n := 0)).1 ?_
  refine callsIn_of_wp_marks Tryz.func39 rfl trivial ?_
  simp only [Tryz.ntmps39, List.size_toArray, List.length_cons, List.length_nil, Nat.reduceAdd, Nat.reduceSub, Array.replicate_succ, Array.replicate_zero, List.push_toArray, List.append_toArray, List.nil_append, List.cons_append]
  refine wpIn_wide.2 ?_
  have b3 : Below w.heap.size w (((w.alloc (.cells (bookL x af ap av aq cf cp cv cq).toArray 38)).alloc (.cells (wantL y (some ad2) a3 a4 a5 c2 c3 c4 c5).toArray 42)).alloc (.cells #[.nilIface] 70)) := (((Below.refl _ _).alloc (Nat.le_refl _) _).alloc (by simp) _).alloc (by simp; omega) _
  have b5 : Below w.heap.size w (((((w.alloc (.cells (bookL x af ap av aq cf cp cv cq).toArray 38)).alloc (.cells (wantL y (some ad2) a3 a4 a5 c2 c3 c4 c5).toArray 42)).alloc (.cells #[.nilIface] 70)).alloc (.cells (bookL x af ap av aq cf cp cv cq).toArray 38)).alloc (.cells (wantL y (some ad2) a3 a4 a5 c2 c3 c4 c5).toArray 42)) := (b3.alloc b3.size _).alloc (by simp; omega) _
  have hsz3 : (((w.alloc (.cells (bookL x af ap av aq cf cp cv cq).toArray 38)).alloc (.cells (wantL y (some ad2) a3 a4 a5 c2 c3 c4 c5).toArray 42)).alloc (.cells #[.nilIface] 70)).heap.size = w.heap.size + 1 + 1 + 1 := by simp
  have hsz5 : (((((w.alloc (.cells (bookL x af ap av aq cf cp cv cq).toArray 38)).alloc (.cells (wantL y (some ad2) a3 a4 a5 c2 c3 c4 c5).toArray 42)).alloc (.cells #[.nilIface] 70)).alloc (.cells (bookL x af ap av aq cf cp cv cq).toArray 38)).alloc (.cells (wantL y (some ad2) a3 a4 a5 c2 c3 c4 c5).toArray 42)).heap.size = w.heap.size + 1 + 1 + 1 + 1 + 1 := by simp
  have iB : Row (((((w.alloc (.cells (bookL x af ap av aq cf cp cv cq).toArray 38)).alloc (.cells (wantL y (some ad2) a3 a4 a5 c2 c3 c4 c5).toArray 42)).alloc (.cells #[.nilIface] 70)).alloc (.cells (bookL x af ap av aq cf cp cv cq).toArray 38)).alloc (.cells (wantL y (some ad2) a3 a4 a5 c2 c3 c4 c5).toArray 42)) (w.heap.size + 1 + 1 + 1) 38 (bookL x af ap av aq cf cp cv cq) := by
    have := (Row.new (((w.alloc (.cells (bookL x af ap av aq cf cp cv cq).toArray 38)).alloc (.cells (wantL y (some ad2) a3 a4 a5 c2 c3 c4 c5).toArray 42)).alloc (.cells #[.nilIface] 70)) 38 (bookL x af ap av aq cf cp cv cq)).alloc (.cells (wantL y (some ad2) a3 a4 a5 c2 c3 c4 c5).toArray 42)
    rw [hsz3] at this
    exact this
  have iW : Row (((((w.alloc (.cells (bookL x af ap av aq cf cp cv cq).toArray 38)).alloc (.cells (wantL y (some ad2) a3 a4 a5 c2 c3 c4 c5).toArray 42)).alloc (.cells #[.nilIface] 70)).alloc (.cells (bookL x af ap av aq cf cp cv cq).toArray 38)).alloc (.cells (wantL y (some ad2) a3 a4 a5 c2 c3 c4 c5).toArray 42)) (w.heap.size + 1 + 1 + 1 + 1) 42 (wantL y (some ad2) a3 a4 a5 c2 c3 c4 c5) := by
    have := Row.new ((((w.alloc (.cells (bookL x af ap av aq cf cp cv cq).toArray 38)).alloc (.cells (wantL y (some ad2) a3 a4 a5 c2 c3 c4 c5).toArray 42)).alloc (.cells #[.nilIface] 70)).alloc (.cells (bookL x af ap av aq cf cp cv cq).toArray 38)) 42 (wantL y (some ad2) a3 a4 a5 c2 c3 c4 c5)
    rw [World.size_alloc, hsz3] at this
    exact this
  have oW : Row (((((w.alloc (.cells (bookL x af ap av aq cf cp cv cq).toArray 38)).alloc (.cells (wantL y (some ad2) a3 a4 a5 c2 c3 c4 c5).toArray 42)).alloc (.cells #[.nilIface] 70)).alloc (.cells (bookL x af ap av aq cf cp cv cq).toArray 38)).alloc (.cells (wantL y (some ad2) a3 a4 a5 c2 c3 c4 c5).toArray 42)) (w.heap.size + 1) 42 (wantL y (some ad2) a3 a4 a5 c2 c3 c4 c5) := by
    have := (((Row.new (w.alloc (.cells (bookL x af ap av aq cf cp cv cq).toArray 38)) 42 (wantL y (some ad2) a3 a4 a5 c2 c3 c4 c5)).alloc (.cells #[.nilIface] 70)).alloc (.cells (bookL x af ap av aq cf cp cv cq).toArray 38)).alloc (.cells (wantL y (some ad2) a3 a4 a5 c2 c3 c4 c5).toArray 42)
    rw [World.size_alloc] at this
    exact this
  have rR : Row (((((w.alloc (.cells (bookL x af ap av aq cf cp cv cq).toArray 38)).alloc (.cells (wantL y (some ad2) a3 a4 a5 c2 c3 c4 c5).toArray 42)).alloc (.cells #[.nilIface] 70)).alloc (.cells (bookL x af ap av aq cf cp cv cq).toArray 38)).alloc (.cells (wantL y (some ad2) a3 a4 a5 c2 c3 c4 c5).toArray 42)) (w.heap.size + 1 + 1) 70 [.nilIface] := by
    have := ((Row.new ((w.alloc (.cells (bookL x af ap av aq cf cp cv cq).toArray 38)).alloc (.cells (wantL y (some ad2) a3 a4 a5 c2 c3 c4 c5).toArray 42)) 70 [.nilIface]).alloc (.cells (bookL x af ap av aq cf cp cv cq).toArray 38)).alloc (.cells (wantL y (some ad2) a3 a4 a5 c2 c3 c4 c5).toArray 42)
    rw [World.size_alloc, World.size_alloc] at this
    exact this
  go_wp2_with fail
  refine (looks_any x af ap av aq cf cp cv cq y (some ad2) a3 a4 a5 c2 c3 c4 c5 _).mono ?_
  rintro e wP ⟨rfl, hwP⟩
  have hwP' : wP = (((((w.alloc (.cells (bookL x af ap av aq cf cp cv cq).toArray 38)).alloc (.cells (wantL y (some ad2) a3 a4 a5 c2 c3 c4 c5).toArray 42)).alloc (.cells #[.nilIface] 70)).alloc (.cells (bookL x af ap av aq cf cp cv cq).toArray 38)).alloc (.cells (wantL y (some ad2) a3 a4 a5 c2 c3 c4 c5).toArray 42)) := hwP
  rw [← hwP'] at b5 hsz5 iB iW oW rR
  clear hwP
  have hsq := hfirst _ _ wP iB iW (hx.later b5) (hy.later b5)
  have HWP : Hid (wP = (((((w.alloc (.cells (bookL x af ap av aq cf cp cv cq).toArray 38)).alloc (.cells (wantL y (some ad2) a3 a4 a5 c2 c3 c4 c5).toArray 42)).alloc (.cells #[.nilIface] 70)).alloc (.cells (bookL x af ap av aq cf cp cv cq).toArray 38)).alloc (.cells (wantL y (some ad2) a3 a4 a5 c2 c3 c4 c5).toArray 42))) := hwP'
  clear hwP' hfirst b3
  go_wp2
  have hIx : ∀ A A' : World, ((∃ v s, looksO x y = some v ∧ Row A (w.heap.size + 1 + 1) 70 [aboutV s v]) ∧ Below w.heap.size w A) → Below wP.heap.size A A' → ((∃ v s, looksO x y = some v ∧ Row A' (w.heap.size + 1 + 1) 70 [aboutV s v]) ∧ Below w.heap.size w A') := by
    rintro A A' ⟨⟨v, s, h1, h2⟩, h3⟩ hb
    exact ⟨⟨v, s, h1, (hb.block _ (by rw [hsz5]; omega)).trans h2⟩, h3.trans (hb.mono (by rw [hsz5]; omega))⟩
  refine (wpIn_wide (n := 0)).1 (wpIn_rangeFirst (gf := 105) (lb := #[.pointer (some ⟨w.heap.size + 1 + 1 + 1, 0, none⟩), .pointer (some ⟨w.heap.size + 1 + 1 + 1 + 1, 0, none⟩)]) (H := looksO x y) rfl (enters_of Tryz.func105 (by kernel_rfl) rfl) hsq (Below.refl _ _) rfl _ hIx
    (fun v => { tmps := #[.agg #[.slice af x.foes.length cf, .slice ap x.spots.length cp, .slice av x.valves.length cv, .slice aq x.parts.length cq, .int .i64 x.seen], .agg #[.int .i64 y.number, .int .i64 y.kind, .slice (some ad2) y.stuffs.length c2, .slice a3 y.uses.length c3, .slice a4 y.opens.length c4, .slice a5 y.shuts.length c5], .pointer (some ⟨w.heap.size, 0, none⟩), .pointer (some ⟨w.heap.size + 1, 0, none⟩), .pointer (some ⟨w.heap.size + 1 + 1, 0, none⟩), v, .agg #[.slice af x.foes.length cf, .slice ap x.spots.length cp, .slice av x.valves.length cv, .slice aq x.parts.length cq, .int .i64 x.seen], .agg #[.int .i64 y.number, .int .i64 y.kind, .slice (some ad2) y.stuffs.length c2, .slice a3 y.uses.length c3, .slice a4 y.opens.length c4, .slice a5 y.shuts.length c5], .func (.func 105) #[] #[.pointer (some ⟨w.heap.size + 1 + 1 + 1, 0, none⟩), .pointer (some ⟨w.heap.size + 1 + 1 + 1 + 1, 0, none⟩)], v, undef, undef, undef, undef, undef, undef, undef, undef], defers := [] }) ?assign ?nil ?hit ?done ?stop)
  case assign =>
    intro l2 v W' K hK
    gi_wp2
    exact hK
  case nil =>
    intro l2 W' hb2
    gi_wp2
    exact Below.refl _ _
  case hit =>
    intro v hv l2 W' hb2
    obtain ⟨t, u, rfl⟩ := looks_shape hv
    have bW := b5.trans (hb2.mono b5.size)
    have q1 := (oW.later hb2).cell 0 rfl
    have rR2 := rR.later hb2
    have hIt := itoa_any y.number n0 n1 W' (ht.later bW)
    gi_wp2_with (first
      | (refine ⟨trivial, rfl, ?_⟩; gi_at_call 81; refine (CallsIn.inRound l2 (callsIn_wide.2 hIt)).mono ?_; rintro e w1 ⟨⟨s1, rfl, hs1⟩, hb1⟩; have rR3 := rR2.later hb1; have r0 := rR3.cell 0 rfl; have r1 := rR3.frozen 0)
      | (refine ⟨trivial, rfl, ?_⟩; gi_at_call 80; refine (CallsIn.inRound l2 (callsIn_wide.2 (about_some _ t u _))).mono ?_; rintro e w2 ⟨rfl, rfl⟩; unfold aboutV))
    exact ⟨keeps_set hb1 (by omega) _, ⟨_, rR3.set 0 _⟩, (bW.trans (hb1.mono bW.size)).setCell (p := ⟨w.heap.size + 1 + 1, 0, none⟩) (by simp; omega) _⟩
  case done =>
    intro hn D W' hD hb2 hK
    have rR2 := rR.later hb2
    have r0 := rR2.cell 0 rfl
    have r1 := rR2.frozen 0
    have bW := b5.trans (hb2.mono b5.size)
    go_wp2
    have hDne : D ≠ w.heap.size + 1 + 1 := by rw [hsz5] at hD; omega
    have hK' : (W'.setCell ⟨w.heap.size + 1 + 1, 0, none⟩ .nilIface).heap[D]? = some (.deferred (some [])) := (Go.Deep.blk_setCell_other _ _ _ _ hDne).trans hK
    refine ⟨by simp, .inl ⟨_, _, rfl, run_takeDeferred hK', ?_⟩⟩
    have rR3 : Row ((W'.setCell ⟨w.heap.size + 1 + 1, 0, none⟩ .nilIface).putObj D (.deferred none)) (w.heap.size + 1 + 1) 70 [.nilIface] := (World.putObj_heap_other (by omega)).trans (rR2.set 0 .nilIface)
    have hc5 := rR3.cell 0 rfl
    refine ⟨.nilIface, ?_, ⟨.nilIface, rfl, Or.inl ⟨hn, rfl⟩⟩, (bW.setCell (p := ⟨w.heap.size + 1 + 1, 0, none⟩) (by simp; omega) _).trans (below_put _ _ _ _ (by rw [hsz5] at hD; omega))⟩
    have hres : Tryz.f39.results = #[.cell 4 70] := rfl
    simp [results, hres, go_sem, hc5]
  case stop =>
    rintro hn D W' hD ⟨⟨v, s, hv, hrow⟩, hbw⟩ hK
    gi_wp2
    have hDne : D ≠ w.heap.size + 1 + 1 := by rw [hsz5] at hD; omega
    refine ⟨by simp, .inl ⟨_, _, rfl, run_takeDeferred hK, ?_⟩⟩
    have rR3 : Row (W'.putObj D (.deferred none)) (w.heap.size + 1 + 1) 70 [aboutV s v] := (World.putObj_heap_other (by omega)).trans hrow
    have hc5 := rR3.cell 0 rfl
    refine ⟨aboutV s v, ?_, ⟨aboutV s v, rfl, Or.inr ⟨v, s, hv, rfl⟩⟩, hbw.trans (below_put _ _ _ _ (by rw [hsz5] at hD; omega))⟩
    have hres : Tryz.f39.results = #[.cell 4 70] := rfl
    simp [results, hres, go_sem, hc5]

end Go.Proofs.YtfmhkicncgccjaaGreatDoor

/- What the program's ClaimCode answers. -/
namespace Go.Proofs.YtfmhkicncgccjaaGreatDoor
open Go.RowKit Go.Sort
set_option linter.unusedSimpArgs false
set_option linter.unusedVariables false

set_option maxHeartbeats 2000000 in
theorem implCode_of (x : Book) (af ap av aq : Option Addr) (cf cp cv cq : Nat) (y : Want) (ad2 : Addr) (a3 a4 a5 : Option Addr) (c2 c3 c4 c5 : Nat) (w : World) (hx : BookIn w x af ap av aq) (fx : BookFit x) (hy : WantIn w y (some ad2) a3 a4 a5) (fy : WantFit y) (hcap : y.stuffs.length ≤ c2) (n0 : -9223372036854775808 ≤ y.number) (n1 : y.number ≤ 9223372036854775807) (ht : TabW w) (hg : ErrType w)
    (hfirst : ∀ (bb bw : Nat) (w0 : World), Row w0 bb 38 (bookL x af ap av aq cf cp cv cq) → Row w0 bw 42 (wantL y (some ad2) a3 a4 a5 c2 c3 c4 c5) → BookIn w0 x af ap av aq → WantIn w0 y (some ad2) a3 a4 a5 → FirstC Tryz.prog 105 #[.pointer (some ⟨bb, 0, none⟩), .pointer (some ⟨bw, 0, none⟩)] w0 (looksO x y)) :
    Calls Tryz.prog 10 #[bookV x af ap av aq cf cp cv cq, wantW y (some ad2) a3 a4 a5 c2 c3 c4 c5] w fun e w' => e = .returned (.int .i64 (codeC x y)) ∧ Below w.heap.size w w' := by
  have b0 : Below w.heap.size w ((w.alloc (.cells (bookL x af ap av aq cf cp cv cq).toArray 38)).alloc (.cells (wantL y (some ad2) a3 a4 a5 c2 c3 c4 c5).toArray 42)) := ((Below.refl _ _).alloc (Nat.le_refl _) _).alloc (by simp) _
  unfold bookV wantW
  go_enter Tryz.func10, Tryz.ntmps10
  go_wp2_with fail
  refine (firstReason_any x af ap av aq cf cp cv cq y ad2 a3 a4 a5 c2 c3 c4 c5 _ (hx.later b0) fx (hy.later b0) fy hcap n0 n1 (ht.later b0) hfirst).mono ?_
  rintro e w1 ⟨⟨r, rfl, hr⟩, hb⟩
  have b1 := b0.trans (hb.mono b0.size)
  have hg1 := hg.later b1
  rcases looks_code x y with ⟨h1, h2⟩ | h1 | ⟨s, h1⟩
  · rcases hr with ⟨-, rfl⟩ | ⟨v, s, hv, -⟩
    · go_wp2_with fail
      refine (codeOf_nil _).mono ?_
      rintro e w2 ⟨rfl, hb2⟩
      go_wp2
      go_ret
      exact ⟨ret_int h2.symm, b1.trans (hb2.mono b1.size)⟩
    · rw [h1] at hv; cases hv
  · rcases hr with ⟨h0, -⟩ | ⟨v, s, hv, rfl⟩
    · rw [h1] at h0; cases h0
    · rw [h1] at hv
      cases hv
      go_wp2_with fail
      refine (codeOf_1 _ s _ hg1).mono ?_
      rintro e w2 ⟨rfl, hb2⟩
      go_wp2
      go_ret
      exact ⟨rfl, b1.trans (hb2.mono b1.size)⟩
  · rcases hr with ⟨h0, -⟩ | ⟨v, s', hv, rfl⟩
    · rw [h1] at h0; cases h0
    · rw [h1] at hv
      cases hv
      go_wp2_with fail
      refine (codeOf_2 _ s' s _ hg1).mono ?_
      rintro e w2 ⟨rfl, hb2⟩
      go_wp2
      go_ret
      exact ⟨rfl, b1.trans (hb2.mono b1.size)⟩

end Go.Proofs.YtfmhkicncgccjaaGreatDoor
