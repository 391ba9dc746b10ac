/- What the specification's l2PartOk answers. -/
import Derived.Test.YtfmhkicncgccjaaGreatBkS6
namespace Go.Proofs.YtfmhkicncgccjaaGreat
open Go.RowKit Go.Sort
set_option linter.unusedSimpArgs false
set_option linter.unusedVariables false

/-- Every spot's least is a number that can be added to. -/
def LeastFit (x : Book) : Prop := ∀ s ∈ x.spots, 0 ≤ s.least ∧ s.least ≤ 1000

/-- The spot at an integer place. -/
def spotAtI (ps : List Spot) (i : Int) : Spot := gp ps i.toNat

def partOkB (x : Book) (p : Part) : Bool :=
  wantB p.want && decide (p.want.number ≤ x.seen) && knowsB x p.want && allTo p.want.uses.length (fun i => useOkB (spotAtI x.spots (spotI x.spots (gu p.want.uses i).name)) p.want (gu p.want.uses i))

theorem wantB_amount {y : Want} (h : wantB y = true) {i : Nat} (hi : i < y.uses.length) : 0 ≤ (gu y.uses i).amount ∧ (gu y.uses i).amount ≤ 1000 := by
  unfold wantB at h
  simp only [Bool.and_eq_true] at h
  have hu : usesS y.kind y.uses = true := h.1.1.1.1.1.1.1.2
  unfold usesS at hu
  rw [Bool.and_eq_true] at hu
  have := allTo_iff.1 hu.2 i hi
  unfold useAtS at this
  simp only [Bool.and_eq_true] at this
  have ha := this.2
  unfold amtS at ha
  split at ha
  · have : (gu y.uses i).amount = 0 := by simpa using ha
    omega
  · rw [Bool.and_eq_true] at ha
    have := ha.2
    unfold inB at this
    simp at this
    omega

theorem knowsB_spot {x : Book} {y : Want} (h : knowsB x y = true) {i : Nat} (hi : i < y.uses.length) : ∃ j, j < x.spots.length ∧ spotI x.spots (gu y.uses i).name = (j : Int) := by
  unfold knowsB at h
  simp only [Bool.and_eq_true] at h
  have := allTo_iff.1 h.1.1 i hi
  have h0 : 0 ≤ spotI x.spots (gu y.uses i).name := of_decide_eq_true this
  rcases spotI_cases x.spots (gu y.uses i).name with ⟨h1, _⟩ | ⟨j, h1, h2, _⟩
  · omega
  · exact ⟨j, h1, h2⟩

theorem partOkB_last {x : Book} {p : Part} (h1 : wantB p.want = true) (h2 : decide (p.want.number ≤ x.seen) = true) (h3 : knowsB x p.want = true) :
    partOkB x p = allTo p.want.uses.length (fun i => useOkB (spotAtI x.spots (spotI x.spots (gu p.want.uses i).name)) p.want (gu p.want.uses i)) := by
  unfold partOkB; rw [h1, h2, h3]; rfl

/-- The cells of a part. -/
def partL (p : Part) (a2 a3 a4 a5 : Option Addr) (c2 c3 c4 c5 : Nat) : List Value :=
  [.int .i64 p.want.number, .int .i64 p.want.kind, .slice a2 p.want.stuffs.length c2, .slice a3 p.want.uses.length c3, .slice a4 p.want.opens.length c4, .slice a5 p.want.shuts.length c5, .bool p.stopped]

set_option maxRecDepth 100000 in
set_option maxHeartbeats 4000000 in
theorem l2PartOk_any (x : Book) (af ap av aq : Option Addr) (cf cp cv cq : Nat) (p : Part) (a2 a3 a4 a5 : Option Addr) (c2 c3 c4 c5 : Nat) (w : World) (hx : BookIn w x af ap av aq) (hy : WantIn w p.want a2 a3 a4 a5) (fx : BookFit x) (fy : WantFit p.want) (hlf : LeastFit x) :
    Calls Tryz.prog 85 #[bookV x af ap av aq cf cp cv cq, partV p a2 a3 a4 a5 c2 c3 c4 c5] w fun e w' => e = .returned (.bool (partOkB x p)) ∧ Below w.heap.size w w' := by
  have hl3 := fy.usesLen
  unfold maxLen at hl3
  unfold bookV partV
  have b0 : Below w.heap.size w ((w.alloc (.cells #[.slice af x.foes.length cf, .slice ap x.spots.length cp, .slice av x.valves.length cv, .slice aq x.parts.length cq, .int .i64 x.seen] 28)).alloc (.cells #[.int .i64 p.want.number, .int .i64 p.want.kind, .slice a2 p.want.stuffs.length c2, .slice a3 p.want.uses.length c3, .slice a4 p.want.opens.length c4, .slice a5 p.want.shuts.length c5, .bool p.stopped] 61)) :=
    ((Below.refl _ _).alloc (Nat.le_refl _) _).alloc (by simp) _
  have i0 : Row ((w.alloc (.cells #[.slice af x.foes.length cf, .slice ap x.spots.length cp, .slice av x.valves.length cv, .slice aq x.parts.length cq, .int .i64 x.seen] 28)).alloc (.cells #[.int .i64 p.want.number, .int .i64 p.want.kind, .slice a2 p.want.stuffs.length c2, .slice a3 p.want.uses.length c3, .slice a4 p.want.opens.length c4, .slice a5 p.want.shuts.length c5, .bool p.stopped] 61)) w.heap.size 28 (bookL x af ap av aq cf cp cv cq) := (Row.new w 28 (bookL x af ap av aq cf cp cv cq)).alloc _
  have o0 : Row ((w.alloc (.cells #[.slice af x.foes.length cf, .slice ap x.spots.length cp, .slice av x.valves.length cv, .slice aq x.parts.length cq, .int .i64 x.seen] 28)).alloc (.cells #[.int .i64 p.want.number, .int .i64 p.want.kind, .slice a2 p.want.stuffs.length c2, .slice a3 p.want.uses.length c3, .slice a4 p.want.opens.length c4, .slice a5 p.want.shuts.length c5, .bool p.stopped] 61)) (w.heap.size + 1) 61 (partL p a2 a3 a4 a5 c2 c3 c4 c5) := by
    have := Row.new (w.alloc (.cells #[.slice af x.foes.length cf, .slice ap x.spots.length cp, .slice av x.valves.length cv, .slice aq x.parts.length cq, .int .i64 x.seen] 28)) 61 (partL p a2 a3 a4 a5 c2 c3 c4 c5)
    simpa [partL] using this
  go_enter Tryz.func85, Tryz.ntmps85
  go_wp2_with fail
  refine (specWantOk_any p.want a2 a3 a4 a5 c2 c3 c4 c5 _ (hy.later b0) fy).mono ?_
  rintro e w1 ⟨rfl, hb⟩
  have b1 := b0.trans (hb.mono b0.size)
  have i1 := i0.later hb
  have o1 := o0.later hb
  clear b0 i0 o0 hb
  cases h1 : wantB p.want with
  | false =>
    go_wp2
    go_ret
    exact ⟨ret_bool (by simp [partOkB, h1]), b1⟩
  | true =>
  have y0 := i1.cell 0 rfl
  have y1 := i1.cell 1 rfl
  have y2 := i1.cell 2 rfl
  have y3 := i1.cell 3 rfl
  have y4 := i1.cell 4 rfl
  have z0 := o1.cell 0 rfl
  have z1 := o1.cell 1 rfl
  have z2 := o1.cell 2 rfl
  have z3 := o1.cell 3 rfl
  have z4 := o1.cell 4 rfl
  have z5 := o1.cell 5 rfl
  by_cases h2 : p.want.number ≤ x.seen
  case neg =>
    have h2' : x.seen < p.want.number := by omega
    clear h2
    go_wp2
    go_ret
    refine ⟨ret_bool ?_, b1⟩
    unfold partOkB
    rw [decide_eq_false (by omega)]
    simp
  have h2' : ¬ x.seen < p.want.number := by omega
  go_wp2_with fail
  refine (l2Knows_any x af ap av aq cf cp cv cq p.want a2 a3 a4 a5 c2 c3 c4 c5 _ (hx.later b1) (hy.later b1) fx fy).mono ?_
  rintro e w2 ⟨rfl, hb⟩
  have b2 := b1.trans (hb.mono b1.size)
  have i2 := i1.later hb
  have o2 := o1.later hb
  clear b1 i1 o1 hb y0 y1 y2 y3 y4 z0 z1 z2 z3 z4 z5
  cases h3 : knowsB x p.want with
  | false =>
    go_wp2
    go_ret
    exact ⟨ret_bool (by simp [partOkB, h3]), b2⟩
  | true =>
  have HL : Hid (partOkB x p = allTo p.want.uses.length (fun i => useOkB (spotAtI x.spots (spotI x.spots (gu p.want.uses i).name)) p.want (gu p.want.uses i))) := partOkB_last h1 (decide_eq_true h2) h3
  go_wp2
  clear h2 h2'
  go_loopw [5] (fun i wr => ∃ (k : Nat), k ≤ p.want.uses.length ∧ i = .int .i64 k ∧ allTo k (fun i => useOkB (spotAtI x.spots (spotI x.spots (gu p.want.uses i).name)) p.want (gu p.want.uses i)) = true ∧ Below w2.heap.size w2 wr) (fun i _ => p.want.uses.length - (intOf i).toNat)
  case atStart => exact ⟨0, Nat.zero_le _, rfl, rfl, Below.refl _ _⟩
  case round wr =>
    obtain ⟨k, hk, rfl, hall, hbel⟩ := hrel
    have hbw := b2.trans (hbel.mono b2.size)
    have i3 := i2.later hbel
    have o3 := o2.later hbel
    have y3 := o3.cell 3 rfl
    by_cases hlt : k < p.want.uses.length
    · obtain ⟨b, o, ha, hb, hc0, hc1, hc2⟩ := (hy.later hbw).uses.at hlt
      obtain ⟨j, hj, hspot⟩ := knowsB_spot h3 hlt
      obtain ⟨bs, os, m, c, has, hbs, hd0, hd1, hd2, hd3, hd4, hst⟩ := (hx.later hbw).spots.at hj
      have ham := wantB_amount h1 hlt
      have hls := hlf _ (gp_mem hj)
      have hfs := (fx.spots.names _ (gp_mem hj)).2
      subst ha has
      have r0 := cell_regrown (i3.cell 0 rfl)
      have r1 := cell_regrown (i3.cell 1 rfl)
      have r2 := cell_regrown (i3.cell 2 rfl)
      have r3 := cell_regrown (i3.cell 3 rfl)
      have r4 := cell_regrown (i3.cell 4 rfl)
      have s0 := cell_regrown (o3.cell 0 rfl)
      have s1 := cell_regrown (o3.cell 1 rfl)
      have s2 := cell_regrown (o3.cell 2 rfl)
      have s3 := cell_regrown y3
      have s4 := cell_regrown (o3.cell 4 rfl)
      have s5 := cell_regrown (o3.cell 5 rfl)
      have t0 := cell_regrown hc0
      have t1 := cell_regrown hc1
      have t2 := cell_regrown hc2
      have u0 := cell_regrown hd0
      have u1 := cell_regrown hd1
      have u2 := cell_regrown hd2
      have u3 := cell_regrown hd3
      have u4 := cell_regrown hd4
      have hcall1 := fun d os => Calls.regrown_of (w := wr) (l2Spot_any x af _ av aq cf cp cv cq (gu p.want.uses k).name (grow (redrawn wr d) os) (hx.later (hbw.trans ((below_regrown wr d os).mono hbw.size))).spots fx.spots.len)
      have hcall2 := fun d os => Calls.regrown_of (w := wr) (l2UseOk_any (gp x.spots j) m c p.want a2 (some ⟨b, o, none⟩) a4 a5 c2 c3 c4 c5 (gu p.want.uses k) (grow (redrawn wr d) os) (hst.later (below_regrown wr d os)) (hy.later (hbw.trans ((below_regrown wr d os).mono hbw.size))).stuffs hfs.1 fy.stuffs.1 hls.1 hls.2 ham.1 ham.2)
      rw [hspot] at hcall1
      unfold bookV at hcall1
      unfold spotV wantW useV at hcall2
      have hlt2 : (k : Int) < p.want.uses.length := by omega
      have hj2 : (j : Int) < x.spots.length := by omega
      clear hc0 hc1 hc2 hd0 hd1 hd2 hd3 hd4 i3 o3 ham hls hfs
      go_wp2
      refine wp_region_quiet_below (by kernel_rfl) (by kernel_rfl) ?_
      repeat (quiet_step (first | exact hcall1 _ _ | exact hcall2 _ _))
      refine wpQuiet_nil ?_
      intro w4 hw'
      obtain ⟨⟨dq, osq⟩, hw''⟩ := hw'
      have hbel1 := hbel.trans ((hw'' ▸ below_regrown wr dq osq).mono hbel.size)
      have hval : useOkB (spotAtI x.spots (spotI x.spots (gu p.want.uses k).name)) p.want (gu p.want.uses k) = useOkB (gp x.spots j) p.want (gu p.want.uses k) := by rw [hspot]; rfl
      have HV : Hid (useOkB (spotAtI x.spots (spotI x.spots (gu p.want.uses k).name)) p.want (gu p.want.uses k) = useOkB (gp x.spots j) p.want (gu p.want.uses k)) := hval
      clear hw'' hcall1 hcall2 r0 r1 r2 r3 r4 s0 s1 s2 s3 s4 s5 t0 t1 t2 u0 u1 u2 u3 u4 hval hspot
      cases hq : useOkB (gp x.spots j) p.want (gu p.want.uses k) with
      | false =>
        go_wp2
        go_ret
        exact ⟨ret_bool (by rw [HL.out]; exact (allTo_false k hlt (by rw [HV.out]; exact hq)).symm), b2.trans (hbel1.mono b2.size)⟩
      | true =>
        go_wp2
        go_roundw
        case rel => exact ⟨k + 1, by omega, by go_num, allTo_succ hall (by rw [HV.out]; exact hq), hbel1⟩
        case measure => simp [intOf]; omega
    · go_wp2
      go_ret
      have : k = p.want.uses.length := by omega
      subst this
      exact ⟨ret_bool (by rw [HL.out]; exact hall.symm), hbw⟩

end Go.Proofs.YtfmhkicncgccjaaGreat
