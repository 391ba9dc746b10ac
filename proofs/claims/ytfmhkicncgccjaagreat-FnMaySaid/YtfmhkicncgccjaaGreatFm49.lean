/- Joined: DrW2. -/
import Derived.Deep.QuietTactic
import Derived.Test.YtfmhkicncgccjaaGreatFm48
import Derived.Test.YtfmhkicncgccjaaGreatFm14
import Derived.Test.YtfmhkicncgccjaaGreatFm11
/- What the law's own wBook answers of two copies of one book. -/
namespace Go.Proofs.YtfmhkicncgccjaaGreat
open Go.RowKit Go.Sort
set_option linter.unusedSimpArgs false
set_option linter.unusedVariables false

theorem eqU_same (u : Use) : eqU u u = true := by unfold eqU; rw [eqS_self]; simp
theorem eqUU_same (us : List Use) : eqUU us us = true := by
 unfold eqUU
 rw [allTo_iff.2 (fun i _ => eqU_same (gu us i))]
 simp
theorem sameB_same (y : Want) : sameB y y = true := by rw [sameB_split rfl rfl (eqSS_self _) (eqSS_self _) (eqSS_self _)]; exact eqUU_same _
set_option maxRecDepth 100000 in
set_option maxHeartbeats 8000000 in
theorem wBook_any (x : Book) (af ap av aq : Option Addr) (cf cp cv cq : Nat) (ef ep ev eq : Option Addr) (df dp dv dq : Nat) (w : World) (hin : BookIn w x af ap av aq) (hie : BookIn w x ef ep ev eq) (hf : BookFit x) :
 Calls Tryz.prog 17 #[bookV x af ap av aq cf cp cv cq, bookV x ef ep ev eq df dp dv dq] w fun e w' => e = .returned (.bool true) ∧ Below w.heap.size w w' := by
 have lf := hf.foes.len
 have lp := hf.spots.len
 have lq := hf.parts.len
 unfold maxLen at lf lp lq
 unfold bookV
 obtain ⟨W1, hW1⟩ : ∃ W, W = (w.alloc (.cells #[.slice af x.foes.length cf, .slice ap x.spots.length cp, .slice av x.valves.length cv, .slice aq x.parts.length cq, .int .i64 x.seen] 28)).alloc (.cells #[.slice ef x.foes.length df, .slice ep x.spots.length dp, .slice ev x.valves.length dv, .slice eq x.parts.length dq, .int .i64 x.seen] 28) := ⟨_, rfl⟩
 have b1 : Below w.heap.size w W1 := by rw [hW1]; exact ((Below.refl _ _).alloc (Nat.le_refl _) _).alloc (by simp) _
 have i1 : Row W1 w.heap.size 28 [.slice af x.foes.length cf, .slice ap x.spots.length cp, .slice av x.valves.length cv, .slice aq x.parts.length cq, .int .i64 x.seen] := by rw [hW1]; exact (Row.new _ _ _).alloc _
 have o1 : Row W1 (w.heap.size + 1) 28 [.slice ef x.foes.length df, .slice ep x.spots.length dp, .slice ev x.valves.length dv, .slice eq x.parts.length dq, .int .i64 x.seen] := by rw [hW1]; exact Row.new' (by simp)
 have n0 : ((x.foes.length : Int) != (x.foes.length : Int)) = false := by simp
 have n1 : ((x.spots.length : Int) != (x.spots.length : Int)) = false := by simp
 have n3 : ((x.parts.length : Int) != (x.parts.length : Int)) = false := by simp
 have n4 : (x.seen != x.seen) = false := by simp
 go_enter Tryz.func17, Tryz.ntmps17
 go_wp2_with fail
 rw [← hW1]
 clear hW1
 refine (wTexts_any av ev cv dv x.valves x.valves W1 (hin.later b1).valves (hie.later b1).valves hf.valves.1).mono ?_
 rintro e w1 ⟨rfl, hb⟩
 rw [eqSS_self]
 have bw := b1.trans (hb.mono b1.size)
 have i2 := i1.later hb
 have o2 := o1.later hb
 have p3 := i2.cell 3 rfl
 have q3 := o2.cell 3 rfl
 have p4 := i2.cell 4 rfl
 have q4 := o2.cell 4 rfl
 clear b1 i1 o1 hb
 go_wp2_with fail
 clear n0 n1 n3 n4 p3 q3 p4 q4
 go_loopw [5] (fun i wr => ∃ (k : Nat) (X : World), X = wr ∧ k ≤ x.foes.length ∧ i = .int .i64 k ∧ Below w1.heap.size w1 X) (fun i _ => x.foes.length - (intOf i).toNat)
 case atStart => exact ⟨0, _, rfl, Nat.zero_le _, rfl, Below.refl _ _⟩
 case round =>
  obtain ⟨k, X, rfl, hk, rfl, hbel⟩ := hrel
  have bX := bw.trans (hbel.mono bw.size)
  have p0 := (i2.later hbel).cell 0 rfl
  have q0 := (o2.later hbel).cell 0 rfl
  by_cases hlt : k < x.foes.length
  · obtain ⟨b1, o1, ha1, hb1, hc0, hc1⟩ := (hin.later bX).foes.at hlt
    obtain ⟨b2, o2', ha2, hb2, he0, he1⟩ := (hie.later bX).foes.at hlt
    subst ha1 ha2
    have hlt2 : (k : Int) < x.foes.length := by omega
    have h1' : ((gf x.foes k).a.toList == (gf x.foes k).a.toList) = true := by simp
    have h2' : ((gf x.foes k).b.toList == (gf x.foes k).b.toList) = true := by simp
    go_wp2
    go_quiet (fail)
    go_wp2
    go_roundw
    case rel => exact ⟨k + 1, _, rfl, by omega, by go_num, below_drewN hbel _⟩
    case measure => simp [intOf]; omega
  · have hlt2 : ¬ (k : Int) < x.foes.length := by omega
    have i3 := i2.later hbel
    have o3 := o2.later hbel
    clear i2 o2 bw
    go_wp2_with fail
    clear p0 q0
    go_loopw [6] (fun i wr => ∃ (k : Nat) (V : World), V = wr ∧ k ≤ x.spots.length ∧ i = .int .i64 k ∧ Below X.heap.size X V) (fun i _ => x.spots.length - (intOf i).toNat)
    case atStart => exact ⟨0, _, rfl, Nat.zero_le _, rfl, Below.refl _ _⟩
    case round =>
     clear hlt hlt2 hk hbel
     obtain ⟨k, V, rfl, hk, rfl, hbV⟩ := hrel
     have bV := bX.trans (hbV.mono bX.size)
     have p1 := (i3.later hbV).cell 1 rfl
     have q1 := (o3.later hbV).cell 1 rfl
     have szV : w.heap.size + 1 < V.heap.size := (o3.later hbV).lt
     have szV0 : w.heap.size < V.heap.size := by omega
     by_cases hlt : k < x.spots.length
     · obtain ⟨b1, o1, m1, c1, ha1, hb1, hc0, hc1, hc2, hc3, hc4, hs1⟩ := (hin.later bV).spots.at hlt
       obtain ⟨b2, o2, m2, c2, ha2, hb2, he0, he1, he2, he3, he4, hs2⟩ := (hie.later bV).spots.at hlt
       have hfit := (hf.spots.names _ (gp_mem hlt)).2.1
       subst ha1 ha2
       have hlt2 : (k : Int) < x.spots.length := by omega
       have h1' : ((gp x.spots k).name.toList == (gp x.spots k).name.toList) = true := by simp
       have h2' : ((gp x.spots k).cap != (gp x.spots k).cap) = false := by simp
       have h3' : ((gp x.spots k).least != (gp x.spots k).least) = false := by simp
       have h4' : ((gp x.spots k).most != (gp x.spots k).most) = false := by simp
       obtain ⟨V2, hV2⟩ : ∃ W, W = (V.alloc (.cells #[.string (gp x.spots k).name, .int .i64 (gp x.spots k).cap, .int .i64 (gp x.spots k).least, .int .i64 (gp x.spots k).most, .slice m1 (gp x.spots k).may.length c1] 72)).alloc (.cells #[.string (gp x.spots k).name, .int .i64 (gp x.spots k).cap, .int .i64 (gp x.spots k).least, .int .i64 (gp x.spots k).most, .slice m2 (gp x.spots k).may.length c2] 72) := ⟨_, rfl⟩
       have b2' : Below V.heap.size V V2 := by rw [hV2]; exact ((Below.refl _ _).alloc (Nat.le_refl _) _).alloc (by simp) _
       have hbV2 : Hid (Below X.heap.size X V2) := hbV.trans (b2'.mono hbV.size)
       go_wp2_with fail
       rw [← hV2]
       clear hV2
       refine (wTexts_any m1 m2 c1 c2 (gp x.spots k).may (gp x.spots k).may V2 (hs1.later b2') (hs2.later b2') hfit).mono ?_
       rintro e V3 ⟨rfl, hb3⟩
       rw [eqSS_self]
       have hbV3 : Hid (Below X.heap.size X V3) := hbV2.out.trans (hb3.mono hbV2.out.size)
       go_wp2
       go_roundw
       case rel => exact ⟨k + 1, _, rfl, by omega, by go_num, hbV3.out⟩
       case measure => simp [intOf]; omega
     · have hlt2 : ¬ (k : Int) < x.spots.length := by omega
       have i4 := i3.later hbV
       have o4 := o3.later hbV
       clear i3 o3 bX
       go_wp2_with fail
       clear p1 q1
       go_loopw [9] (fun i wr => ∃ (k : Nat) (W : World), W = wr ∧ k ≤ x.parts.length ∧ i = .int .i64 k ∧ Below V.heap.size V W) (fun i _ => x.parts.length - (intOf i).toNat)
       case atStart => exact ⟨0, _, rfl, Nat.zero_le _, rfl, Below.refl _ _⟩
       case round =>
        clear hlt hlt2 hk hbV
        obtain ⟨k, U, rfl, hk, rfl, hbU⟩ := hrel
        have bU := bV.trans (hbU.mono bV.size)
        have p3 := (i4.later hbU).cell 3 rfl
        have q3 := (o4.later hbU).cell 3 rfl
        by_cases hlt : k < x.parts.length
        · obtain ⟨b1, o1, a2, a3, a4, a5, c2, c3, c4, c5, ha1, hb1, hc0, hc1, hc2, hc3, hc4, hc5, hc6, hs1⟩ := (hin.later bU).parts.at hlt
          obtain ⟨b2, o2, f2, f3, f4, f5, d2, d3, d4, d5, ha2, hb2, he0, he1, he2, he3, he4, he5, he6, hs2⟩ := (hie.later bU).parts.at hlt
          have hfit := hf.parts.wants _ (gq_mem hlt)
          subst ha1 ha2
          have hlt2 : (k : Int) < x.parts.length := by omega
          have h6 : ((gq x.parts k).stopped != (gq x.parts k).stopped) = false := by simp
          have hcall := fun d os => Calls.regrown_of (w := U) (wWant_any (gq x.parts k).want (gq x.parts k).want a2 a3 a4 a5 c2 c3 c4 c5 f2 f3 f4 f5 d2 d3 d4 d5 (grow (redrawn U d) os) (hs1.later (below_regrown U d os)) (hs2.later (below_regrown U d os)) hfit)
          rw [sameB_same] at hcall
          unfold wantW at hcall
          have r0 := cell_regrown hc0
          have s0 := cell_regrown he0
          have r1 := cell_regrown hc1
          have s1 := cell_regrown he1
          have r2 := cell_regrown hc2
          have s2 := cell_regrown he2
          have r3 := cell_regrown hc3
          have s3 := cell_regrown he3
          have r4 := cell_regrown hc4
          have s4 := cell_regrown he4
          have r5 := cell_regrown hc5
          have s5 := cell_regrown he5
          have r6 := cell_regrown hc6
          have s6 := cell_regrown he6
          have rp := cell_regrown p3
          have rq := cell_regrown q3
          clear hc0 hc1 hc2 hc3 hc4 hc5 hc6 he0 he1 he2 he3 he4 he5 he6
          go_wp2_with fail
          refine wp_region_quiet_below (by kernel_rfl) (by kernel_rfl) ?_
          repeat (quiet_step (exact hcall _ _))
          refine wpQuiet_nil ?_
          intro w9 hw'
          obtain ⟨⟨dq', osq⟩, hw''⟩ := hw'
          have hbU1 : Hid (Below V.heap.size V w9) := hbU.trans ((hw'' ▸ below_regrown U dq' osq).mono hbU.size)
          clear hw'' hcall r0 r1 r2 r3 r4 r5 r6 s0 s1 s2 s3 s4 s5 s6 rp rq
          go_wp2
          go_roundw
          case rel => exact ⟨k + 1, _, rfl, by omega, by go_num, hbU1.out⟩
          case measure => simp [intOf]; omega
        · have hlt2 : ¬ (k : Int) < x.parts.length := by omega
          go_wp2
          go_ret
          exact ⟨rfl, bU⟩

end Go.Proofs.YtfmhkicncgccjaaGreat

