/- Joined: BkS6, BkS7, BkS8. -/
import Derived.Test.YtfmhkicncgccjaaGreatFm16
import Derived.OwnWalk
/- What the specification's l2UseOk answers. -/
namespace Go.Proofs.YtfmhkicncgccjaaGreat
open Go.RowKit Go.Sort
set_option linter.unusedSimpArgs false
set_option linter.unusedVariables false

/-- What was granted of a place is in its spot. -/
def useOkB (s : Spot) (y : Want) (u : Use) : Bool :=
 !(y.kind == 2 && decide (0 < s.most) || (y.kind == 1 && !(u.role == 2)) && !allB s.may y.stuffs || (y.kind == 1 && !(u.role == 1)) && !allB y.stuffs s.may) && decide (s.least + u.amount ≤ s.most)

set_option maxRecDepth 100000 in
set_option maxHeartbeats 2000000 in
theorem l2UseOk_any (s : Spot) (m : Option Addr) (c : Nat) (y : Want) (a2 a3 a4 a5 : Option Addr) (c2 c3 c4 c5 : Nat) (u : Use) (w : World) (hs : StrsAt w m s.may) (hy : StrsAt w a2 y.stuffs) (ls : s.may.length ≤ maxLen) (ly : y.stuffs.length ≤ maxLen)
 (g1 : 0 ≤ s.least) (g2 : s.least ≤ 1000) (g3 : 0 ≤ u.amount) (g4 : u.amount ≤ 1000) :
 Calls Tryz.prog 129 #[spotV s m c, wantW y a2 a3 a4 a5 c2 c3 c4 c5, useV u] w fun e w' => e = .returned (.bool (useOkB s y u)) ∧ Below w.heap.size w w' := by
 unfold spotV wantW useV
 have b0 : Below w.heap.size w (((w.alloc (.cells #[.string s.name, .int .i64 s.cap, .int .i64 s.least, .int .i64 s.most, .slice m s.may.length c] 72)).alloc (.cells #[.int .i64 y.number, .int .i64 y.kind, .slice a2 y.stuffs.length c2, .slice a3 y.uses.length c3, .slice a4 y.opens.length c4, .slice a5 y.shuts.length c5] 38)).alloc (.cells #[.string u.name, .int .i64 u.role, .int .i64 u.amount] 101)) :=
  (((Below.refl _ _).alloc (Nat.le_refl _) _).alloc (by simp) _).alloc (by simp; omega) _
 have hs0 := hs.later b0
 have hy0 := hy.later b0
 by_cases k2 : y.kind = 2
 · have e2 : (y.kind == 2) = true := by simp [k2]
   have e1 : (y.kind == 1) = false := by simp [k2]
   have HK : Hid (y.kind = 2) := k2
   clear k2
   by_cases hm0 : 0 < s.most
   · go_enter Tryz.func129, Tryz.ntmps129
     go_wp2
     go_ret
     exact ⟨ret_bool (by simp [useOkB, HK.out, hm0]), b0⟩
   · go_enter Tryz.func129, Tryz.ntmps129
     go_wp2
     go_ret
     exact ⟨ret_bool (by simp [useOkB, HK.out, hm0]), b0⟩
 have e2 : (y.kind == 2) = false := by simp [k2]
 have HK2 : Hid (¬ y.kind = 2) := k2
 clear k2
 by_cases k1 : y.kind = 1
 case neg =>
  have e1 : (y.kind == 1) = false := by simp [k1]
  go_enter Tryz.func129, Tryz.ntmps129
  go_wp2
  go_ret
  exact ⟨ret_bool (by simp [useOkB, k1, HK2.out]), b0⟩
 have e1 : (y.kind == 1) = true := by simp [k1]
 have HK1 : Hid (y.kind = 1) := k1
 clear k1
 by_cases r2 : u.role = 2
 · have f2 : (u.role != 2) = false := by simp [r2]
   have f1 : (u.role != 1) = true := by simp [r2]
   have HR : Hid (u.role = 2) := r2
   clear r2
   go_enter Tryz.func129, Tryz.ntmps129
   go_wp2_with fail
   refine (l1All_any a2 m c2 c y.stuffs s.may _ hy0 hs0 ly ls).mono ?_
   rintro e w1 ⟨rfl, rfl⟩
   cases hq : allB y.stuffs s.may with
   | false =>
    go_wp2
    go_ret
    exact ⟨ret_bool (by simp [useOkB, HK1.out, HR.out, hq]), b0⟩
   | true =>
    go_wp2
    go_ret
    exact ⟨ret_bool (by simp [useOkB, HK1.out, HR.out, hq]), b0⟩
 have f2 : (u.role != 2) = true := by simp [r2]
 have HR2 : Hid (¬ u.role = 2) := r2
 clear r2
 by_cases r1 : u.role = 1
 · have f1 : (u.role != 1) = false := by simp [r1]
   have HR : Hid (u.role = 1) := r1
   clear r1
   go_enter Tryz.func129, Tryz.ntmps129
   go_wp2_with fail
   refine (l1All_any m a2 c c2 s.may y.stuffs _ hs0 hy0 ls ly).mono ?_
   rintro e w1 ⟨rfl, rfl⟩
   cases hq : allB s.may y.stuffs with
   | false =>
    go_wp2
    go_ret
    exact ⟨ret_bool (by simp [useOkB, HK1.out, HR.out, hq]), b0⟩
   | true =>
    go_wp2
    go_ret
    exact ⟨ret_bool (by simp [useOkB, HK1.out, HR.out, hq]), b0⟩
 have f1 : (u.role != 1) = true := by simp [r1]
 have HR1 : Hid (¬ u.role = 1) := r1
 clear r1
 go_enter Tryz.func129, Tryz.ntmps129
 go_wp2_with fail
 refine (l1All_any m a2 c c2 s.may y.stuffs _ hs0 hy0 ls ly).mono ?_
 rintro e w1 ⟨rfl, rfl⟩
 cases hq : allB s.may y.stuffs with
 | false =>
  go_wp2
  go_ret
  exact ⟨ret_bool (by simp [useOkB, HK1.out, HR2.out, hq]), b0⟩
 | true =>
 go_wp2_with fail
 refine (l1All_any a2 m c2 c y.stuffs s.may _ hy0 hs0 ly ls).mono ?_
 rintro e w1 ⟨rfl, rfl⟩
 cases hq2 : allB y.stuffs s.may with
 | false =>
  go_wp2
  go_ret
  exact ⟨ret_bool (by simp [useOkB, HK1.out, HR1.out, hq2]), b0⟩
 | true =>
  go_wp2
  go_ret
  exact ⟨ret_bool (by simp [useOkB, HK1.out, hq, hq2]), b0⟩

end Go.Proofs.YtfmhkicncgccjaaGreat

/- What the specification's l2PartOk answers. -/
namespace Go.Proofs.YtfmhkicncgccjaaGreat
open Go.RowKit Go.Sort
set_option linter.unusedSimpArgs false
set_option linter.unusedVariables false

/-- Every spot's least is a number that can be added to. -/
def LeastFit (x : Book) : Prop := ∀ s ∈ x.spots, 0 ≤ s.least ∧ s.least ≤ 1000

/-- The spot at an integer place. -/
def spotAtI (ps : List Spot) (i : Int) : Spot := gp ps i.toNat

def partOkB (x : Book) (p : Part) : Bool :=
 wantB p.want && decide (p.want.number ≤ x.seen) && knowsB x p.want && allTo p.want.uses.length (fun i => useOkB (spotAtI x.spots (spotI x.spots (gu p.want.uses i).name)) p.want (gu p.want.uses i))

theorem wantB_amount {y : Want} (h : wantB y = true) {i : Nat} (hi : i < y.uses.length) : 0 ≤ (gu y.uses i).amount ∧ (gu y.uses i).amount ≤ 1000 := by
 unfold wantB at h
 simp only [Bool.and_eq_true] at h
 have hu : usesS y.kind y.uses = true := h.1.1.1.1.1.1.1.2
 unfold usesS at hu
 rw [Bool.and_eq_true] at hu
 have := allTo_iff.1 hu.2 i hi
 unfold useAtS at this
 simp only [Bool.and_eq_true] at this
 have ha := this.2
 unfold amtS at ha
 split at ha
 · have : (gu y.uses i).amount = 0 := by simpa using ha
   omega
 · rw [Bool.and_eq_true] at ha
   have := ha.2
   unfold inB at this
   simp at this
   omega

theorem knowsB_spot {x : Book} {y : Want} (h : knowsB x y = true) {i : Nat} (hi : i < y.uses.length) : ∃ j, j < x.spots.length ∧ spotI x.spots (gu y.uses i).name = (j : Int) := by
 unfold knowsB at h
 simp only [Bool.and_eq_true] at h
 have := allTo_iff.1 h.1.1 i hi
 have h0 : 0 ≤ spotI x.spots (gu y.uses i).name := of_decide_eq_true this
 rcases spotI_cases x.spots (gu y.uses i).name with ⟨h1, _⟩ | ⟨j, h1, h2, _⟩
 · omega
 · exact ⟨j, h1, h2⟩

theorem partOkB_last {x : Book} {p : Part} (h1 : wantB p.want = true) (h2 : decide (p.want.number ≤ x.seen) = true) (h3 : knowsB x p.want = true) :
 partOkB x p = allTo p.want.uses.length (fun i => useOkB (spotAtI x.spots (spotI x.spots (gu p.want.uses i).name)) p.want (gu p.want.uses i)) := by
 unfold partOkB; rw [h1, h2, h3]; rfl

/-- The cells of a part. -/
def partL (p : Part) (a2 a3 a4 a5 : Option Addr) (c2 c3 c4 c5 : Nat) : List Value :=
 [.int .i64 p.want.number, .int .i64 p.want.kind, .slice a2 p.want.stuffs.length c2, .slice a3 p.want.uses.length c3, .slice a4 p.want.opens.length c4, .slice a5 p.want.shuts.length c5, .bool p.stopped]

set_option maxRecDepth 100000 in
set_option maxHeartbeats 4000000 in
theorem l2PartOk_any (x : Book) (af ap av aq : Option Addr) (cf cp cv cq : Nat) (p : Part) (a2 a3 a4 a5 : Option Addr) (c2 c3 c4 c5 : Nat) (w : World) (hx : BookIn w x af ap av aq) (hy : WantIn w p.want a2 a3 a4 a5) (fx : BookFit x) (fy : WantFit p.want) (hlf : LeastFit x) :
 Calls Tryz.prog 85 #[bookV x af ap av aq cf cp cv cq, partV p a2 a3 a4 a5 c2 c3 c4 c5] w fun e w' => e = .returned (.bool (partOkB x p)) ∧ Below w.heap.size w w' := by
 have hl3 := fy.usesLen
 unfold maxLen at hl3
 unfold bookV partV
 have b0 : Below w.heap.size w ((w.alloc (.cells #[.slice af x.foes.length cf, .slice ap x.spots.length cp, .slice av x.valves.length cv, .slice aq x.parts.length cq, .int .i64 x.seen] 28)).alloc (.cells #[.int .i64 p.want.number, .int .i64 p.want.kind, .slice a2 p.want.stuffs.length c2, .slice a3 p.want.uses.length c3, .slice a4 p.want.opens.length c4, .slice a5 p.want.shuts.length c5, .bool p.stopped] 61)) :=
  ((Below.refl _ _).alloc (Nat.le_refl _) _).alloc (by simp) _
 have i0 : Row ((w.alloc (.cells #[.slice af x.foes.length cf, .slice ap x.spots.length cp, .slice av x.valves.length cv, .slice aq x.parts.length cq, .int .i64 x.seen] 28)).alloc (.cells #[.int .i64 p.want.number, .int .i64 p.want.kind, .slice a2 p.want.stuffs.length c2, .slice a3 p.want.uses.length c3, .slice a4 p.want.opens.length c4, .slice a5 p.want.shuts.length c5, .bool p.stopped] 61)) w.heap.size 28 (bookL x af ap av aq cf cp cv cq) := (Row.new w 28 (bookL x af ap av aq cf cp cv cq)).alloc _
 have o0 : Row ((w.alloc (.cells #[.slice af x.foes.length cf, .slice ap x.spots.length cp, .slice av x.valves.length cv, .slice aq x.parts.length cq, .int .i64 x.seen] 28)).alloc (.cells #[.int .i64 p.want.number, .int .i64 p.want.kind, .slice a2 p.want.stuffs.length c2, .slice a3 p.want.uses.length c3, .slice a4 p.want.opens.length c4, .slice a5 p.want.shuts.length c5, .bool p.stopped] 61)) (w.heap.size + 1) 61 (partL p a2 a3 a4 a5 c2 c3 c4 c5) := by
  have := Row.new (w.alloc (.cells #[.slice af x.foes.length cf, .slice ap x.spots.length cp, .slice av x.valves.length cv, .slice aq x.parts.length cq, .int .i64 x.seen] 28)) 61 (partL p a2 a3 a4 a5 c2 c3 c4 c5)
  simpa [partL] using this
 go_enter Tryz.func85, Tryz.ntmps85
 go_wp2_with fail
 refine (specWantOk_any p.want a2 a3 a4 a5 c2 c3 c4 c5 _ (hy.later b0) fy).mono ?_
 rintro e w1 ⟨rfl, hb⟩
 have b1 := b0.trans (hb.mono b0.size)
 have i1 := i0.later hb
 have o1 := o0.later hb
 clear b0 i0 o0 hb
 cases h1 : wantB p.want with
 | false =>
  go_wp2
  go_ret
  exact ⟨ret_bool (by simp [partOkB, h1]), b1⟩
 | true =>
 have y0 := i1.cell 0 rfl
 have y1 := i1.cell 1 rfl
 have y2 := i1.cell 2 rfl
 have y3 := i1.cell 3 rfl
 have y4 := i1.cell 4 rfl
 have z0 := o1.cell 0 rfl
 have z1 := o1.cell 1 rfl
 have z2 := o1.cell 2 rfl
 have z3 := o1.cell 3 rfl
 have z4 := o1.cell 4 rfl
 have z5 := o1.cell 5 rfl
 by_cases h2 : p.want.number ≤ x.seen
 case neg =>
  have h2' : x.seen < p.want.number := by omega
  clear h2
  go_wp2
  go_ret
  refine ⟨ret_bool ?_, b1⟩
  unfold partOkB
  rw [decide_eq_false (by omega)]
  simp
 have h2' : ¬ x.seen < p.want.number := by omega
 go_wp2_with fail
 refine (l2Knows_any x af ap av aq cf cp cv cq p.want a2 a3 a4 a5 c2 c3 c4 c5 _ (hx.later b1) (hy.later b1) fx fy).mono ?_
 rintro e w2 ⟨rfl, hb⟩
 have b2 := b1.trans (hb.mono b1.size)
 have i2 := i1.later hb
 have o2 := o1.later hb
 clear b1 i1 o1 hb y0 y1 y2 y3 y4 z0 z1 z2 z3 z4 z5
 cases h3 : knowsB x p.want with
 | false =>
  go_wp2
  go_ret
  exact ⟨ret_bool (by simp [partOkB, h3]), b2⟩
 | true =>
 have HL : Hid (partOkB x p = allTo p.want.uses.length (fun i => useOkB (spotAtI x.spots (spotI x.spots (gu p.want.uses i).name)) p.want (gu p.want.uses i))) := partOkB_last h1 (decide_eq_true h2) h3
 go_wp2
 clear h2 h2'
 go_loopw [5] (fun i wr => ∃ (k : Nat), k ≤ p.want.uses.length ∧ i = .int .i64 k ∧ allTo k (fun i => useOkB (spotAtI x.spots (spotI x.spots (gu p.want.uses i).name)) p.want (gu p.want.uses i)) = true ∧ Below w2.heap.size w2 wr) (fun i _ => p.want.uses.length - (intOf i).toNat)
 case atStart => exact ⟨0, Nat.zero_le _, rfl, rfl, Below.refl _ _⟩
 case round wr =>
  obtain ⟨k, hk, rfl, hall, hbel⟩ := hrel
  have hbw := b2.trans (hbel.mono b2.size)
  have i3 := i2.later hbel
  have o3 := o2.later hbel
  have y3 := o3.cell 3 rfl
  by_cases hlt : k < p.want.uses.length
  · obtain ⟨b, o, ha, hb, hc0, hc1, hc2⟩ := (hy.later hbw).uses.at hlt
    obtain ⟨j, hj, hspot⟩ := knowsB_spot h3 hlt
    obtain ⟨bs, os, m, c, has, hbs, hd0, hd1, hd2, hd3, hd4, hst⟩ := (hx.later hbw).spots.at hj
    have ham := wantB_amount h1 hlt
    have hls := hlf _ (gp_mem hj)
    have hfs := (fx.spots.names _ (gp_mem hj)).2
    subst ha has
    have r0 := cell_regrown (i3.cell 0 rfl)
    have r1 := cell_regrown (i3.cell 1 rfl)
    have r2 := cell_regrown (i3.cell 2 rfl)
    have r3 := cell_regrown (i3.cell 3 rfl)
    have r4 := cell_regrown (i3.cell 4 rfl)
    have s0 := cell_regrown (o3.cell 0 rfl)
    have s1 := cell_regrown (o3.cell 1 rfl)
    have s2 := cell_regrown (o3.cell 2 rfl)
    have s3 := cell_regrown y3
    have s4 := cell_regrown (o3.cell 4 rfl)
    have s5 := cell_regrown (o3.cell 5 rfl)
    have t0 := cell_regrown hc0
    have t1 := cell_regrown hc1
    have t2 := cell_regrown hc2
    have u0 := cell_regrown hd0
    have u1 := cell_regrown hd1
    have u2 := cell_regrown hd2
    have u3 := cell_regrown hd3
    have u4 := cell_regrown hd4
    have hcall1 := fun d os => Calls.regrown_of (w := wr) (l2Spot_any x af _ av aq cf cp cv cq (gu p.want.uses k).name (grow (redrawn wr d) os) (hx.later (hbw.trans ((below_regrown wr d os).mono hbw.size))).spots fx.spots.len)
    have hcall2 := fun d os => Calls.regrown_of (w := wr) (l2UseOk_any (gp x.spots j) m c p.want a2 (some ⟨b, o, none⟩) a4 a5 c2 c3 c4 c5 (gu p.want.uses k) (grow (redrawn wr d) os) (hst.later (below_regrown wr d os)) (hy.later (hbw.trans ((below_regrown wr d os).mono hbw.size))).stuffs hfs.1 fy.stuffs.1 hls.1 hls.2 ham.1 ham.2)
    rw [hspot] at hcall1
    unfold bookV at hcall1
    unfold spotV wantW useV at hcall2
    have hlt2 : (k : Int) < p.want.uses.length := by omega
    have hj2 : (j : Int) < x.spots.length := by omega
    clear hc0 hc1 hc2 hd0 hd1 hd2 hd3 hd4 i3 o3 ham hls hfs
    go_wp2
    refine wp_region_quiet_below (by kernel_rfl) (by kernel_rfl) ?_
    repeat (quiet_step (first | exact hcall1 _ _ | exact hcall2 _ _))
    refine wpQuiet_nil ?_
    intro w4 hw'
    obtain ⟨⟨dq, osq⟩, hw''⟩ := hw'
    have hbel1 := hbel.trans ((hw'' ▸ below_regrown wr dq osq).mono hbel.size)
    have hval : useOkB (spotAtI x.spots (spotI x.spots (gu p.want.uses k).name)) p.want (gu p.want.uses k) = useOkB (gp x.spots j) p.want (gu p.want.uses k) := by rw [hspot]; rfl
    have HV : Hid (useOkB (spotAtI x.spots (spotI x.spots (gu p.want.uses k).name)) p.want (gu p.want.uses k) = useOkB (gp x.spots j) p.want (gu p.want.uses k)) := hval
    clear hw'' hcall1 hcall2 r0 r1 r2 r3 r4 s0 s1 s2 s3 s4 s5 t0 t1 t2 u0 u1 u2 u3 u4 hval hspot
    cases hq : useOkB (gp x.spots j) p.want (gu p.want.uses k) with
    | false =>
     go_wp2
     go_ret
     exact ⟨ret_bool (by rw [HL.out]; exact (allTo_false k hlt (by rw [HV.out]; exact hq)).symm), b2.trans (hbel1.mono b2.size)⟩
    | true =>
     go_wp2
     go_roundw
     case rel => exact ⟨k + 1, by omega, by go_num, allTo_succ hall (by rw [HV.out]; exact hq), hbel1⟩
     case measure => simp [intOf]; omega
  · go_wp2
    go_ret
    have : k = p.want.uses.length := by omega
    subst this
    exact ⟨ret_bool (by rw [HL.out]; exact hall.symm), hbw⟩

end Go.Proofs.YtfmhkicncgccjaaGreat

/- What the specification's l2Uses answers: the names of a want's places. -/
namespace Go.Proofs.YtfmhkicncgccjaaGreat
open Go.RowKit Go.Sort
set_option linter.unusedSimpArgs false
set_option linter.unusedVariables false

/-- The names of a want's places. -/
def usesN (y : Want) : List ByteArray := y.uses.map (·.name)
theorem usesN_len (y : Want) : (usesN y).length = y.uses.length := by simp [usesN]
theorem usesN_at {y : Want} {k : Nat} (h : k < y.uses.length) : (usesN y)[k]? = some (gu y.uses k).name := by
 rw [gu_lt h]; simp [usesN, h]
theorem take_usesN {y : Want} {k : Nat} (h : k < y.uses.length) : ((usesN y).take (k + 1)).map Value.string = ((usesN y).take k).map Value.string ++ [.string (gu y.uses k).name] := by
 rw [List.take_add_one, usesN_at h]; simp

set_option maxRecDepth 100000 in
set_option maxHeartbeats 1000000 in
theorem l2Uses_any (y : Want) (a2 a3 a4 a5 : Option Addr) (c2 c3 c4 c5 : Nat) (w : World) (hy : UsesAt w a3 y.uses) (hl : y.uses.length ≤ 8) :
 Calls Tryz.prog 87 #[wantW y a2 a3 a4 a5 c2 c3 c4 c5] w fun e w' => (∃ a cap, e = .returned (.slice a (usesN y).length cap) ∧ StrsAt w' a (usesN y)) ∧ Below w.heap.size w w' := by
 unfold wantW
 obtain ⟨t0, hi, hz0, hz1, hz2⟩ := info_parts info9
 go_enter Tryz.func87, Tryz.ntmps87
 go_wp2
 go_loopw [3, 4] (fun v i wr => ∃ (k : Nat), k ≤ y.uses.length ∧ i = .int .i64 k ∧ wr.ownsRow (w.heap.size + 1) 9 1 v k (((usesN y).take k).map Value.string) ∧ Below (w.alloc (.cells (wantL y a2 a3 a4 a5 c2 c3 c4 c5).toArray 38)).heap.size (w.alloc (.cells (wantL y a2 a3 a4 a5 c2 c3 c4 c5).toArray 38)) wr) (fun _ i _ => y.uses.length - (intOf i).toNat)
 case atStart =>
  refine ⟨0, Nat.zero_le _, rfl, ?_, (Below.refl _ _).alloc (Nat.le_refl _) _⟩
  have h := World.ownsRow_lit (base := w.heap.size + 1) (e := 9) (size := 1) (w.alloc (.cells (wantL y a2 a3 a4 a5 c2 c3 c4 c5).toArray 38)) #[] 0 (by simp) (Nat.zero_le _) rfl
  simpa [wantL] using h
 case round wr =>
  obtain ⟨k, hk, rfl, hown, hbel⟩ := hrel
  have hbw := below_over hbel
  have row := (Row.new w 38 (wantL y a2 a3 a4 a5 c2 c3 c4 c5)).later hbel
  have y3 := row.cell 3 rfl
  have hsz := row.lt
  by_cases hlt : k < y.uses.length
  · obtain ⟨b, o, ha, hb, hc0, hc1, hc2⟩ := (hy.later hbw).at hlt
    subst ha
    clear hc1 hc2 row
    go_wp2_with (first
     | (at_builtin; refine wpList_append_own _ rfl _ _ 25 rfl (w.heap.size + 1) 9 t0 (.string .empty) 1 16 Tryz.underlying25 hi hz0 hz1 hz2 rfl (by decide) _ _ _ rfl (hown.alloc _) ⟨wr.heap.size, 0, none⟩ 1 1 [.string (gu y.uses k).name] rfl rfl (cell_one_new _ _ _) ?c2 ?c3 ?c4 ?c5 ?_)
     | go_in)
    case c2 => intro u hu; simp at hu; subst hu; rfl
    case c3 => unfold maxLen; omega
    case c4 => omega
    case c5 => simp; omega
    intro v' w1 hown' hgrow _
    have hbel1 := (hbel.alloc hbel.size (.cells #[.string (gu y.uses k).name] 9)).grown hgrow (by have := hbel.size; simp at this ⊢; omega) (fun g hg => by have := hown.lt g hg; simp; omega)
    have hown2 : w1.ownsRow (w.heap.size + 1) 9 1 v' (k + 1) (((usesN y).take (k + 1)).map Value.string) := by rw [take_usesN hlt, List.map_take]; exact hown'
    clear hown' hgrow
    go_wp2
    go_roundw
    case rel => exact ⟨k + 1, by omega, by go_num, hown2, hbel1⟩
    case measure => simp [intOf]; omega
  · have : k = y.uses.length := by omega
    subst this
    go_wp2
    go_ret
    have hfull : ((usesN y).take y.uses.length) = usesN y := List.take_of_length_le (by rw [usesN_len]; exact Nat.le_refl _)
    rw [hfull] at hown
    refine ⟨?_, hbw⟩
    rcases hown.2 with ⟨rfl, hn⟩ | ⟨g, cap, cur, rfl, hg, hcur, h1, h2, h3, h4⟩
    · refine ⟨none, 0, by rw [usesN_len, hn]; rfl, fun k hk => absurd hk (by rw [usesN_len, hn]; exact Nat.not_lt_zero _)⟩
    · refine ⟨some ⟨g, 0, none⟩, cap, by rw [usesN_len]; rfl, fun k hk => ⟨g, 0, rfl, ?_, fun j hj => ?_⟩⟩
      · obtain ⟨hlt', _⟩ := Array.getElem?_eq_some_iff.1 hcur
        exact hlt'
      · have hj0 : j = 0 := by omega
        subst hj0
        have hk' : k < y.uses.length := by rw [usesN_len] at hk; exact hk
        have hc := hown.cellAt k (by omega)
        rw [List.getElem?_map, usesN_at hk'] at hc
        have e : gs (usesN y) k = (gu y.uses k).name := by
         have := usesN_at hk'
         rw [List.getElem?_eq_getElem hk] at this
         rw [gs_lt hk]
         exact Option.some.inj this
        show wr.cell? _ = some (.string (gs (usesN y) k))
        rw [e]
        simpa using hc

end Go.Proofs.YtfmhkicncgccjaaGreat

