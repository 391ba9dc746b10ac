/- Joined: DrLaw. -/
import Derived.Deep.DeepCutAuto
import Derived.Deep.RegionHeld3
import Derived.Test.YtfmhkicncgccjaaGreatFm06
import Derived.Test.YtfmhkicncgccjaaGreatFm47
import Derived.Test.YtfmhkicncgccjaaGreatFm49
import Derived.Test.YtfmhkicncgccjaaGreatFm50
import Derived.Test.YtfmhkicncgccjaaGreatFm53
/- The law FnMay, walked: it returns true. -/
namespace Go.Proofs.YtfmhkicncgccjaaGreat
open Go.RowKit Go.Sort
set_option linter.unusedSimpArgs false
set_option linter.unusedVariables false

theorem stop_ways (d : Book) (k : Int) : stopC d k = 0 ∨ (stopC d k = 1 ∧ (stopB d k).valves.length = 0) ∨ (stopC d k = 3 ∧ stopB d k = d) := by
 unfold stopC stopB
 by_cases hb : bookB d = true
 · rw [if_pos hb, if_pos hb]
   by_cases hp : 0 ≤ partI d.parts k
   · rw [if_pos hp]; exact Or.inl rfl
   · rw [if_neg hp, if_neg hp]; exact Or.inr (Or.inr ⟨rfl, rfl⟩)
 · rw [if_neg hb, if_neg hb]; exact Or.inr (Or.inl ⟨rfl, rfl⟩)
theorem stopB_valves_fit {d : Book} (h : BookFit d) (k : Int) : BookFit (stopB d k) := by
 have hn : BookFit bookNil := ⟨⟨by simp [bookNil], by simp [bookNil]⟩, ⟨by simp [bookNil], by simp [bookNil]⟩, ⟨by simp [bookNil], by simp [bookNil]⟩, ⟨by simp [bookNil], by simp [bookNil]⟩⟩
 unfold stopB
 split
 · rcases partI_cases d.parts k with ⟨hp, -⟩ | ⟨j, hj, hp, -⟩
   · rw [hp, if_neg (by omega)]; exact h
   · rw [hp, if_pos (by omega)]
     refine ⟨h.foes, h.spots, h.valves, ⟨?_, fun p hp => ?_⟩⟩
     · rw [stopAt_length]; exact h.parts.1
     · obtain ⟨q, hq, e⟩ := mem_stopAt2 (by omega) hp
       rw [← e]; exact h.parts.2 q hq
 · exact hn
set_option maxRecDepth 100000 in
set_option maxHeartbeats 8000000 in
theorem fnMay_any (a1 : Option Addr) (n1 c1 : Nat) (f1 : Nat → Nat) (a2 : Option Addr) (n2 c2 : Nat) (f2 : Nat → Nat) (w : World) (hr1 : RowAt w a1 n1 1 (fun k _ => .int .u8 (f1 k))) (hf1 : ∀ k, f1 k < 256) (hc1 : n1 ≤ c1) (hr2 : RowAt w a2 n2 1 (fun k _ => .int .u8 (f2 k))) (hf2 : ∀ k, f2 k < 256) (hc2 : n2 ≤ c2) :
 Calls Tryz.prog 3 #[.slice a1 n1 c1, .slice a2 n2 c2] w fun e w' => e = .returned (.bool true) ∧ Below w.heap.size w w' := by
 by_cases g1 : 1048576 < n1
 · have g1' : (1048576 : Int) < n1 := by omega
   go_enter Tryz.func3, Tryz.ntmps3
   go_wp2
   go_ret
   exact ⟨rfl, Below.refl _ _⟩
 have g1' : ¬ (1048576 : Int) < n1 := by omega
 by_cases g2 : 1048576 < n2
 · have g2' : (1048576 : Int) < n2 := by omega
   go_enter Tryz.func3, Tryz.ntmps3
   go_wp2
   go_ret
   exact ⟨rfl, Below.refl _ _⟩
 have g2' : ¬ (1048576 : Int) < n2 := by omega
 go_enter Tryz.func3, Tryz.ntmps3
 go_wp2_with fail
 clear g1' g2' g1 g2
 refine (drawMay_any a1 n1 c1 f1 w hr1 hf1 hc1).mono ?_
 rintro e X0 ⟨⟨x, af, ap, av, aq, cf, cp, cv, cq, s, rfl, hin, sm, hsz⟩, bX0⟩
 unfold bookV
 obtain ⟨Bb, hBb⟩ : ∃ b, b = X0.heap.size := ⟨_, rfl⟩
 obtain ⟨X, hX⟩ : ∃ W, W = X0.alloc (.cells #[.slice af x.foes.length cf, .slice ap x.spots.length cp, .slice av x.valves.length cv, .slice aq x.parts.length cq, .int .i64 x.seen] 28) := ⟨_, rfl⟩
 have b0 : Below X0.heap.size X0 X := by rw [hX]; exact (Below.refl _ _).alloc (Nat.le_refl _) _
 have rB : Row X Bb 28 [.slice af x.foes.length cf, .slice ap x.spots.length cp, .slice av x.valves.length cv, .slice aq x.parts.length cq, .int .i64 x.seen] := by rw [hX, hBb]; exact Row.new _ _ _
 have hinX := hin.later b0
 have bX : Below w.heap.size w X := bX0.trans (b0.mono bX0.size)
 have CELLS : ∀ W, Below X.heap.size X W → Row W Bb 28 [.slice af x.foes.length cf, .slice ap x.spots.length cp, .slice av x.valves.length cv, .slice aq x.parts.length cq, .int .i64 x.seen] := fun W hb => rB.later hb
 have IN : ∀ W, Below X.heap.size X W → BookIn W x af ap av aq := fun W hb => hinX.later hb
 have MAY := fun W (hb : Below X.heap.size X W) => implMay_any x af ap av aq cf cp cv cq s W (IN W hb) sm.fit
 have SMAY := fun W (hb : Below X.heap.size X W) => specMay_any x af ap av aq cf cp cv cq s W (IN W hb) sm.fit
 have SHUT := fun W (hb : Below X.heap.size X W) => implShut_any x af ap av aq cf cp cv cq s W (IN W hb) sm.fit sm.room.parts
 have SSHUT := fun W (hb : Below X.heap.size X W) => specShut_any x af ap av aq cf cp cv cq s W (IN W hb) sm.fit sm.room.parts
 have PART := fun W (hb : Below X.heap.size X W) => wPart_any x af ap av aq cf cp cv cq (mayC x s) W (IN W hb).parts sm.fit.parts.len
 unfold bookV at MAY SMAY SHUT SSHUT PART
 have y0 := rB.cell 0 rfl
 have y1 := rB.cell 1 rfl
 have y2 := rB.cell 2 rfl
 have y3 := rB.cell 3 rfl
 have y4 := rB.cell 4 rfl
 clear b0 bX0 hin hinX
 go_wp2_with fail
 rw [← hX, ← hBb]
 clear hX hBb
 refine (MAY X (Below.refl _ _)).mono ?_
 rintro e X1 ⟨rfl, hb1⟩
 clear y0 y1 y2 y3 y4
 have r1 := CELLS X1 hb1
 have y0 := r1.cell 0 rfl
 have y1 := r1.cell 1 rfl
 have y2 := r1.cell 2 rfl
 have y3 := r1.cell 3 rfl
 have y4 := r1.cell 4 rfl
 go_wp2_with fail
 refine (SHUT X1 hb1).mono ?_
 rintro e X2 ⟨⟨asl, cs, rfl, ows, -⟩, hb2'⟩
 have hb2 := hb1.trans (hb2'.mono hb1.size)
 clear y0 y1 y2 y3 y4 r1 hb2' MAY SHUT
 have NSH : Hid (0 < mayC x s → (shutC x s).length = 0) := fun h => by rw [shutC_nil h]; rfl
 have OPN : Hid (0 < mayC x s → hasB (partW x (mayC x s)).opens s = true) := fun h => may_opens h
 have hsl : (shutC x s).length ≤ maxLen := by
  have h1 : (shutC x s).length ≤ x.parts.length := by unfold shutC; split; exact shutTo_le _ _ _; simp
  have := sm.parts
  unfold maxLen
  omega
 have PFIT : (partW x (mayC x s)).opens.length ≤ maxLen := by
  unfold partW
  split
  · rcases partI_cases x.parts (mayC x s) with ⟨hp, -⟩ | ⟨j, hj, hp, -⟩
    · omega
    · rw [hp]; exact (sm.fit.parts.wants _ (gq_mem hj)).opens.1
  · simp [wantNil]
 generalize mayC x s = nn at SMAY PART NSH OPN PFIT ⊢
 generalize shutC x s = sl at SSHUT ows NSH hsl ⊢
 have hnn : (nn != nn) = false := by simp
 go_upto_region 6 with fail
 go_cut [8, 65] (fun s8 q wx => q = .bool false ∧ Below X.heap.size X wx)
 case first =>
  have r2 := CELLS X2 hb2
  have y0 := r2.cell 0 rfl
  have y1 := r2.cell 1 rfl
  have y2 := r2.cell 2 rfl
  have y3 := r2.cell 3 rfl
  have y4 := r2.cell 4 rfl
  go_wp2_with fail
  refine (SMAY X2 hb2).mono ?_
  rintro e X3 ⟨rfl, hb3'⟩
  have hb3 := hb2.trans (hb3'.mono hb2.size)
  have ow3 := ows.later hb3'
  clear y0 y1 y2 y3 y4 r2 hb3' SMAY
  have r3 := CELLS X3 hb3
  have y0 := r3.cell 0 rfl
  have y1 := r3.cell 1 rfl
  have y2 := r3.cell 2 rfl
  have y3 := r3.cell 3 rfl
  have y4 := r3.cell 4 rfl
  go_wp2_with fail
  refine (SSHUT X3 hb3).mono ?_
  rintro e X4 ⟨⟨at_, ct, rfl, owt, -⟩, hb4'⟩
  have hb4 := hb3.trans (hb4'.mono hb3.size)
  have ow4 := ow3.later hb4'
  clear y0 y1 y2 y3 y4 r3 hb4' SSHUT
  go_wp2_with fail
  refine (wInts_any asl at_ cs ct sl X4 ow4.rowAt owt.rowAt hsl).mono ?_
  rintro e X5 ⟨rfl, hb5'⟩
  have hb5 := hb4.trans (hb5'.mono hb4.size)
  clear hb5' ow4 owt
  by_cases hn : 0 < nn
  · have hl0 : sl.length = 0 := NSH.out hn
    have hop := OPN.out hn
    have r5 := CELLS X5 hb5
    have y0 := r5.cell 0 rfl
    have y1 := r5.cell 1 rfl
    have y2 := r5.cell 2 rfl
    have y3 := r5.cell 3 rfl
    have y4 := r5.cell 4 rfl
    go_wp2_with fail
    refine (PART X5 hb5).mono ?_
    rintro e X6 ⟨⟨d2, d3, d4, d5, k2, k3, k4, k5, rfl, hinw⟩, hb6'⟩
    have hb6 := hb5.trans (hb6'.mono hb5.size)
    unfold wantW
    clear y0 y1 y2 y3 y4 r5 hb6' PART
    generalize partW x nn = yw at hop PFIT hinw ⊢
    have hfld := opens_field X6 yw.number yw.kind d2 d3 d4 d5 yw.stuffs.length yw.uses.length yw.opens.length yw.shuts.length k2 k3 k4 k5
    go_wp2_with fail
    refine (wHas_any d4 k4 yw.opens s X6 hinw.opens PFIT).mono ?_
    rintro e X7 ⟨rfl, rfl⟩
    rw [hop]
    go_wp2_with fail
    go_meet
    exact ⟨rfl, hb6⟩
  · go_wp2_with fail
    go_meet
    exact ⟨rfl, hb5⟩
 case rest =>
  obtain ⟨rfl, hbc⟩ := hcut
  have bc : Below w.heap.size w wc := bX.trans (hbc.mono bX.size)
  clear ows NSH OPN PFIT hsl hnn SMAY SSHUT PART CELLS IN rB bX
  go_wp2_with fail
  refine (drawStop_any a2 n2 c2 f2 wc (hr2.later bc) hf2 hc2).mono ?_
  rintro e D0 ⟨⟨d, e0, e1, e2, e3, m0, m1, m2, m3, k, rfl, hind, smd⟩, bD0⟩
  unfold bookV
  obtain ⟨Db, hDb⟩ : ∃ b, b = D0.heap.size := ⟨_, rfl⟩
  obtain ⟨D, hD⟩ : ∃ W, W = D0.alloc (.cells #[.slice e0 d.foes.length m0, .slice e1 d.spots.length m1, .slice e2 d.valves.length m2, .slice e3 d.parts.length m3, .int .i64 d.seen] 28) := ⟨_, rfl⟩
  have bD : Below D0.heap.size D0 D := by rw [hD]; exact (Below.refl _ _).alloc (Nat.le_refl _) _
  have rD : Row D Db 28 [.slice e0 d.foes.length m0, .slice e1 d.spots.length m1, .slice e2 d.valves.length m2, .slice e3 d.parts.length m3, .int .i64 d.seen] := by rw [hD, hDb]; exact Row.new _ _ _
  have hinD := hind.later bD
  have bwD : Below w.heap.size w D := (bc.trans (bD0.mono bc.size)).trans (bD.mono (bc.trans (bD0.mono bc.size)).size)
  have STOP := implStop_own d e0 e1 e2 e3 m0 m1 m2 m3 k D hinD smd.fit smd.room
  have SSTOP := fun W (hb : Below D.heap.size D W) => specStop_own d e0 e1 e2 e3 m0 m1 m2 m3 k W (hinD.later hb) smd.fit smd.room
  have WAYS : Hid ((stopC d k = 0 ∧ ∀ v, mayC (stopB d k) v ≠ k) ∨ (stopC d k = 1 ∧ (stopB d k).valves.length = 0) ∨ (stopC d k = 3 ∧ stopB d k = d)) := by
   show (stopC d k = 0 ∧ ∀ v, mayC (stopB d k) v ≠ k) ∨ (stopC d k = 1 ∧ (stopB d k).valves.length = 0) ∨ (stopC d k = 3 ∧ stopB d k = d)
   rcases stop_ways d k with h | h | h
   · exact Or.inl ⟨h, stop_may h⟩
   · exact Or.inr (Or.inl h)
   · exact Or.inr (Or.inr h)
  have XFIT : BookFit (stopB d k) := stopB_valves_fit smd.fit k
  generalize stopB d k = xs at STOP SSTOP WAYS XFIT
  generalize stopC d k = c at STOP SSTOP WAYS
  unfold bookV at STOP SSTOP
  have y0 := rD.cell 0 rfl
  have y1 := rD.cell 1 rfl
  have y2 := rD.cell 2 rfl
  have y3 := rD.cell 3 rfl
  have y4 := rD.cell 4 rfl
  clear bD0 hind bc
  go_wp2_with fail
  rw [← hD, ← hDb]
  clear hD hDb bD
  refine STOP.mono ?_
  rintro e E0 ⟨⟨f0, f1, f2', f3, k0, k1, k2, k3, A1, C1, A2, C2, rfl, own, -⟩, bE0⟩
  unfold bookV
  clear y0 y1 y2 y3 y4 STOP
  obtain ⟨Xb, hXb⟩ : ∃ b, b = E0.heap.size := ⟨_, rfl⟩
  obtain ⟨E, hE⟩ : ∃ W, W = E0.alloc (.cells #[.slice f0 xs.foes.length k0, .slice f1 xs.spots.length k1, .slice f2' xs.valves.length k2, .slice f3 xs.parts.length k3, .int .i64 xs.seen] 28) := ⟨_, rfl⟩
  have bE : Below E0.heap.size E0 E := by rw [hE]; exact (Below.refl _ _).alloc (Nat.le_refl _) _
  have rE : Row E Xb 28 [.slice f0 xs.foes.length k0, .slice f1 xs.spots.length k1, .slice f2' xs.valves.length k2, .slice f3 xs.parts.length k3, .int .i64 xs.seen] := by rw [hE, hXb]; exact Row.new _ _ _
  have inE : BookIn E xs f0 f1 f2' f3 := own.in_.later bE
  have bDE : Below D.heap.size D E := bE0.trans (bE.mono bE0.size)
  have rDE := rD.later bDE
  have rD0 := rD.later bE0
  have szD := rD0.lt
  have y0 := rD0.cell 0 rfl
  have y1 := rD0.cell 1 rfl
  have y2 := rD0.cell 2 rfl
  have y3 := rD0.cell 3 rfl
  have y4 := rD0.cell 4 rfl
  clear own
  go_wp2_with fail
  rw [← hE, ← hXb]
  clear hE hXb bE bE0
  refine (SSTOP E bDE).mono ?_
  rintro e G0 ⟨⟨h0, h1, h2, h3, l0, l1, l2, l3, A3, C3, A4, C4, rfl, own, -⟩, bG0⟩
  unfold bookV
  clear y0 y1 y2 y3 y4 SSTOP rD0
  obtain ⟨Tb, hTb⟩ : ∃ b, b = G0.heap.size := ⟨_, rfl⟩
  obtain ⟨G, hG⟩ : ∃ W, W = G0.alloc (.cells #[.slice h0 xs.foes.length l0, .slice h1 xs.spots.length l1, .slice h2 xs.valves.length l2, .slice h3 xs.parts.length l3, .int .i64 xs.seen] 28) := ⟨_, rfl⟩
  have bG : Below G0.heap.size G0 G := by rw [hG]; exact (Below.refl _ _).alloc (Nat.le_refl _) _
  have rG : Row G Tb 28 [.slice h0 xs.foes.length l0, .slice h1 xs.spots.length l1, .slice h2 xs.valves.length l2, .slice h3 xs.parts.length l3, .int .i64 xs.seen] := by rw [hG, hTb]; exact Row.new _ _ _
  have inG : BookIn G xs h0 h1 h2 h3 := own.in_.later bG
  have bEG : Below E.heap.size E G := bG0.trans (bG.mono bG0.size)
  have rEG := rE.later bEG
  have inEG := inE.later bEG
  have rDG := rDE.later bEG
  have inDG := hinD.later (bDE.trans (bEG.mono bDE.size))
  have bwG : Below w.heap.size w G := bwD.trans ((bDE.trans (bEG.mono bDE.size)).mono bwD.size)
  have rE0 := rE.later bG0
  have szE := rE0.lt
  have y0 := rE0.cell 0 rfl
  have y1 := rE0.cell 1 rfl
  have y2 := rE0.cell 2 rfl
  have y3 := rE0.cell 3 rfl
  have y4 := rE0.cell 4 rfl
  clear own rE inE rDE rD hinD bDE
  have WB := wBook_any xs f0 f1 f2' f3 k0 k1 k2 k3 h0 h1 h2 h3 l0 l1 l2 l3 G inEG inG XFIT
  unfold bookV at WB
  have hcc : (c != c) = false := by simp
  go_wp2_with fail
  rw [← hG, ← hTb]
  clear hG hTb bG bG0 bEG
  refine WB.mono ?_
  rintro e H ⟨rfl, hbH⟩
  clear y0 y1 y2 y3 y4 WB hcc inG rG rE0
  have rH := rEG.later hbH
  have inH := inEG.later hbH
  have rDH := rDG.later hbH
  have inDH := inDG.later hbH
  have bwH := bwG.trans (hbH.mono bwG.size)
  clear rEG inEG rDG inDG bwG hbH
  go_wp2_with fail
  go_loopw [15] (fun i wr => ∃ (j : Nat) (V : World), V = wr ∧ j ≤ xs.valves.length ∧ i = .int .i64 j ∧ Below H.heap.size H V) (fun i _ => xs.valves.length - (intOf i).toNat)
  case atStart => exact ⟨0, _, rfl, Nat.zero_le _, rfl, Below.refl _ _⟩
  case round =>
   obtain ⟨j, V, rfl, hj, rfl, hbV⟩ := hrel
   have rV := rH.later hbV
   have inV := inH.later hbV
   have rDV := rDH.later hbV
   have inDV := inDH.later hbV
   have lv := XFIT.valves.1
   unfold maxLen at lv
   have y0 := rV.cell 0 rfl
   have y1 := rV.cell 1 rfl
   have y2 := rV.cell 2 rfl
   have y3 := rV.cell 3 rfl
   have y4 := rV.cell 4 rfl
   by_cases hlt : j < xs.valves.length
   · have hlt2 : (j : Int) < xs.valves.length := by omega
     obtain ⟨bv, ov, hv, hbv, hcv⟩ := inV.valves j hlt
     have hcv0 : V.cell? ⟨bv, ov + j, none⟩ = some (.string (gs xs.valves j)) := by have := hcv 0 (by omega); simpa using this
     clear hcv
     have HV : Hid (f2' = some ⟨bv, ov, none⟩) := hv
     rcases WAYS.out with ⟨hc0, hmay⟩ | ⟨hc1, hc1'⟩ | ⟨hc3, hxd⟩
     · have hcall := fun d' os => Calls.regrown_of (w := V) (implMay_any xs f0 f1 f2' f3 k0 k1 k2 k3 (gs xs.valves j) (grow (redrawn V d') os) (inV.later (below_regrown V d' os)) XFIT)
       unfold bookV at hcall
       have hne := hmay (gs xs.valves j)
       generalize mayC xs (gs xs.valves j) = mm at hcall hne
       have hneb : (mm == k) = false := by simp [hne]
       generalize gs xs.valves j = sv at hcall hcv0
       clear WAYS hmay hne
       subst hv
       subst hc0
       have r0 := cell_regrown y0
       have r1 := cell_regrown y1
       have r2 := cell_regrown y2
       have r3 := cell_regrown y3
       have r4 := cell_regrown y4
       have rc := cell_regrown hcv0
       clear y0 y1 y3 y4 hcv0
       go_wp2_with fail
       refine wp_region_quiet_below (by kernel_rfl) (by kernel_rfl) ?_
       repeat (quiet_step (exact hcall _ _))
       refine wpQuiet_nil ?_
       intro w9 hw'
       obtain ⟨⟨dq', osq⟩, hw''⟩ := hw'
       have hbU1 : Hid (Below H.heap.size H w9) := hbV.trans ((hw'' ▸ below_regrown V dq' osq).mono hbV.size)
       clear hw''
       go_wp2
       go_roundw
       case rel => exact ⟨j + 1, _, rfl, by omega, by go_num, hbU1.out⟩
       case measure => simp [intOf]; omega
     · omega
     · subst hxd
       have WBK := fun W (hb : Below V.heap.size V W) => wBook_any xs f0 f1 f2' f3 k0 k1 k2 k3 e0 e1 e2 e3 m0 m1 m2 m3 W (inV.later hb) (inDV.later hb) XFIT
       unfold bookV at WBK
       clear WAYS hcv0 HV hbv
       subst hc3
       clear hv
       have z0 := rDV.cell 0 rfl
       have z1 := rDV.cell 1 rfl
       have z2 := rDV.cell 2 rfl
       have z3 := rDV.cell 3 rfl
       have z4 := rDV.cell 4 rfl
       have PK : Hid _ := And.intro hbV bwH
       clear inV inDV rV rDV rH inH rDH inDH bwH hbV XFIT smd sm
       go_upto_region 16 with fail
       go_cut [121] (fun q wx => q = .bool false ∧ Below V.heap.size V wx)
       case first =>
        have hS : ∀ W, Below V.heap.size V W → (W.cell? ⟨Xb, 0, none⟩ = some (.slice f0 xs.foes.length k0) ∧ W.cell? ⟨Xb, 1, none⟩ = some (.slice f1 xs.spots.length k1) ∧ W.cell? ⟨Xb, 2, none⟩ = some (.slice f2' xs.valves.length k2) ∧ W.cell? ⟨Xb, 3, none⟩ = some (.slice f3 xs.parts.length k3) ∧ W.cell? ⟨Xb, 4, none⟩ = some (.int .i64 xs.seen) ∧ W.cell? ⟨Db, 0, none⟩ = some (.slice e0 xs.foes.length m0) ∧ W.cell? ⟨Db, 1, none⟩ = some (.slice e1 xs.spots.length m1) ∧ W.cell? ⟨Db, 2, none⟩ = some (.slice e2 xs.valves.length m2) ∧ W.cell? ⟨Db, 3, none⟩ = some (.slice e3 xs.parts.length m3) ∧ W.cell? ⟨Db, 4, none⟩ = some (.int .i64 xs.seen) ∧ Below V.heap.size V W) := fun W hb => ⟨cell_later hb y0, cell_later hb y1, cell_later hb y2, cell_later hb y3, cell_later hb y4, cell_later hb z0, cell_later hb z1, cell_later hb z2, cell_later hb z3, cell_later hb z4, hb⟩
        have hS0 := hS V.drew (Below.drew (Below.refl _ _))
        refine wp_region_E (fun W => W.cell? ⟨Xb, 0, none⟩ = some (.slice f0 xs.foes.length k0) ∧ W.cell? ⟨Xb, 1, none⟩ = some (.slice f1 xs.spots.length k1) ∧ W.cell? ⟨Xb, 2, none⟩ = some (.slice f2' xs.valves.length k2) ∧ W.cell? ⟨Xb, 3, none⟩ = some (.slice f3 xs.parts.length k3) ∧ W.cell? ⟨Xb, 4, none⟩ = some (.int .i64 xs.seen) ∧ W.cell? ⟨Db, 0, none⟩ = some (.slice e0 xs.foes.length m0) ∧ W.cell? ⟨Db, 1, none⟩ = some (.slice e1 xs.spots.length m1) ∧ W.cell? ⟨Db, 2, none⟩ = some (.slice e2 xs.valves.length m2) ∧ W.cell? ⟨Db, 3, none⟩ = some (.slice e3 xs.parts.length m3) ∧ W.cell? ⟨Db, 4, none⟩ = some (.int .i64 xs.seen) ∧ Below V.heap.size V W) 99 (by kernel_rfl) ?_
        refine wpAnyE_takeN (i := 0) (v := ?vak0) rfl (by kernel_rfl) (by kernel_rfl) (by kernel_rfl) (by rfl) (by kernel_rfl) (fun _ _ _ h => h) (Or.inl ⟨by rfl, ?yak0⟩) (hS0) ?rak0
        case yak0 =>
         intro w' hSw
         try dsimp only at hSw
         go_simp
         try with_reducible rfl
        try simp only [Act.put, sA, sB, sC]
        refine wpAnyE_takeN (i := 1) (v := ?vak1) rfl (by kernel_rfl) (by kernel_rfl) (by kernel_rfl) (by rfl) (by kernel_rfl) (fun _ _ _ h => h) (Or.inl ⟨by rfl, ?yak1⟩) (hS0) ?rak1
        case yak1 =>
         intro w' hSw
         try dsimp only at hSw
         go_simp
         try with_reducible rfl
        try simp only [Act.put, sA, sB, sC]
        refine wpAnyE_takeN (i := 2) (v := ?vak2) rfl (by kernel_rfl) (by kernel_rfl) (by kernel_rfl) (by rfl) (by kernel_rfl) (fun _ _ _ h => h) (Or.inl ⟨by rfl, ?yak2⟩) (hS0) ?rak2
        case yak2 =>
         intro w' hSw
         try dsimp only at hSw
         go_simp
         try with_reducible rfl
        try simp only [Act.put, sA, sB, sC]
        refine wpAnyE_takeN (i := 3) (v := undef) rfl (by kernel_rfl) (by kernel_rfl) (by kernel_rfl) (by rfl) (by kernel_rfl) (fun _ _ _ h => h) (Or.inr ⟨by rfl, rfl⟩) (hS0) ?rak3
        try simp only [Act.put, sA, sB, sC]
        refine wpAnyE_takeN (i := 4) (v := undef) rfl (by kernel_rfl) (by kernel_rfl) (by kernel_rfl) (by rfl) (by kernel_rfl) (fun _ _ _ h => h) (Or.inr ⟨by rfl, rfl⟩) (hS0) ?rak4
        try simp only [Act.put, sA, sB, sC]
        refine wpAnyE_takeN (i := 5) (v := undef) rfl (by kernel_rfl) (by kernel_rfl) (by kernel_rfl) (by rfl) (by kernel_rfl) (fun _ _ _ h => h) (Or.inr ⟨by rfl, rfl⟩) (hS0) ?rak5
        try simp only [Act.put, sA, sB, sC]
        refine wpAnyE_takeN (i := 6) (v := undef) rfl (by kernel_rfl) (by kernel_rfl) (by kernel_rfl) (by rfl) (by kernel_rfl) (fun _ _ _ h => h) (Or.inr ⟨by rfl, rfl⟩) (hS0) ?rak6
        try simp only [Act.put, sA, sB, sC]
        refine wpAnyE_takeN (i := 7) (v := undef) rfl (by kernel_rfl) (by kernel_rfl) (by kernel_rfl) (by rfl) (by kernel_rfl) (fun _ _ _ h => h) (Or.inr ⟨by rfl, rfl⟩) (hS0) ?rak7
        try simp only [Act.put, sA, sB, sC]
        refine wpAnyE_takeN (i := 8) (v := undef) rfl (by kernel_rfl) (by kernel_rfl) (by kernel_rfl) (by rfl) (by kernel_rfl) (fun _ _ _ h => h) (Or.inr ⟨by rfl, rfl⟩) (hS0) ?rak8
        try simp only [Act.put, sA, sB, sC]
        refine wpAnyE_takeN (i := 9) (v := undef) rfl (by kernel_rfl) (by kernel_rfl) (by kernel_rfl) (by rfl) (by kernel_rfl) (fun _ _ _ h => h) (Or.inr ⟨by rfl, rfl⟩) (hS0) ?rak9
        try simp only [Act.put, sA, sB, sC]
        refine wpAnyE_takeN (i := 10) (v := undef) rfl (by kernel_rfl) (by kernel_rfl) (by kernel_rfl) (by rfl) (by kernel_rfl) (fun _ _ _ h => h) (Or.inr ⟨by rfl, rfl⟩) (hS0) ?rak10
        try simp only [Act.put, sA, sB, sC]
        refine wpAnyE_takeN (i := 11) (v := undef) rfl (by kernel_rfl) (by kernel_rfl) (by kernel_rfl) (by rfl) (by kernel_rfl) (fun _ _ _ h => h) (Or.inr ⟨by rfl, rfl⟩) (hS0) ?rak11
        try simp only [Act.put, sA, sB, sC]
        refine wpAnyE_takeN (i := 12) (v := ?vak12) rfl (by kernel_rfl) (by kernel_rfl) (by kernel_rfl) (by rfl) (by kernel_rfl) (fun _ _ _ h => h) (Or.inl ⟨by rfl, ?yak12⟩) (hS0) ?rak12
        case yak12 =>
         intro w' hSw
         try dsimp only at hSw
         go_simp
         try with_reducible rfl
        try simp only [Act.put, sA, sB, sC]
        refine wpAnyE_takeN (i := 13) (v := ?vak13) rfl (by kernel_rfl) (by kernel_rfl) (by kernel_rfl) (by rfl) (by kernel_rfl) (fun _ _ _ h => h) (Or.inl ⟨by rfl, ?yak13⟩) (hS0) ?rak13
        case yak13 =>
         intro w' hSw
         try dsimp only at hSw
         go_simp
         try with_reducible rfl
        try simp only [Act.put, sA, sB, sC]
        refine wpAnyE_takeN (i := 14) (v := ?vak14) rfl (by kernel_rfl) (by kernel_rfl) (by kernel_rfl) (by rfl) (by kernel_rfl) (fun _ _ _ h => h) (Or.inl ⟨by rfl, ?yak14⟩) (hS0) ?rak14
        case yak14 =>
         intro w' hSw
         try dsimp only at hSw
         go_simp
         try with_reducible rfl
        try simp only [Act.put, sA, sB, sC]
        refine wpAnyE_takeN (i := 15) (v := ?vak15) rfl (by kernel_rfl) (by kernel_rfl) (by kernel_rfl) (by rfl) (by kernel_rfl) (fun _ _ _ h => h) (Or.inl ⟨by rfl, ?yak15⟩) (hS0) ?rak15
        case yak15 =>
         intro w' hSw
         try dsimp only at hSw
         go_simp
         try with_reducible rfl
        try simp only [Act.put, sA, sB, sC]
        refine wpAnyE_takeN (i := 16) (v := ?vak16) rfl (by kernel_rfl) (by kernel_rfl) (by kernel_rfl) (by rfl) (by kernel_rfl) (fun _ _ _ h => h) (Or.inl ⟨by rfl, ?yak16⟩) (hS0) ?rak16
        case yak16 =>
         intro w' hSw
         try dsimp only at hSw
         go_simp
         try with_reducible rfl
        try simp only [Act.put, sA, sB, sC]
        refine wpAnyE_takeN (i := 17) (v := ?vak17) rfl (by kernel_rfl) (by kernel_rfl) (by kernel_rfl) (by rfl) (by kernel_rfl) (fun _ _ _ h => h) (Or.inl ⟨by rfl, ?yak17⟩) (hS0) ?rak17
        case yak17 =>
         intro w' hSw
         try dsimp only at hSw
         go_simp
         try with_reducible rfl
        try simp only [Act.put, sA, sB, sC]
        refine wpAnyE_takeN (i := 18) (v := ?vak18) rfl (by kernel_rfl) (by kernel_rfl) (by kernel_rfl) (by rfl) (by kernel_rfl) (fun _ _ _ h => h) (Or.inl ⟨by rfl, ?yak18⟩) (hS0) ?rak18
        case yak18 =>
         intro w' hSw
         try dsimp only at hSw
         go_simp
         try with_reducible rfl
        try simp only [Act.put, sA, sB, sC]
        refine wpAnyE_oneC (i := 19) rfl (by kernel_rfl) ?_
        intro K hK
        rw [if_pos (by rfl)]
        go_wp2_with (go_at_call 17; refine (WBK _ (by (repeat (first | assumption | exact Below.refl _ _ | refine Below.drew ?_ | refine Below.alloc ?_ (by (try simp); (try omega)) _)))).mono ?_; rintro e w9 ⟨rfl, hb'⟩; have hb9 : Below V.heap.size V w9 := below_next (by (repeat (first | assumption | exact Below.refl _ _ | refine Below.drew ?_ | refine Below.alloc ?_ (by (try simp); (try omega)) _))) hb')
        refine hK.out _ _ (fun _ => hS _ hb9) ?_
        clear hK K
        try simp only [Act.put, sA, sB, sC]
        refine wpAnyE_takeN (i := 20) (v := ?vak20) rfl (by kernel_rfl) (by kernel_rfl) (by kernel_rfl) (by rfl) (by kernel_rfl) (fun _ _ _ h => h) (Or.inl ⟨by rfl, ?yak20⟩) (hS _ hb9) ?rak20
        case yak20 =>
         intro w' hSw
         try dsimp only at hSw
         go_simp
         try with_reducible rfl
        try simp only [Act.put, sA, sB, sC]
        refine wpAnyE_takeN (i := 21) (v := ?vak21) rfl (by kernel_rfl) (by kernel_rfl) (by kernel_rfl) (by rfl) (by kernel_rfl) (fun _ _ _ h => h) (Or.inl ⟨by rfl, ?yak21⟩) (hS _ hb9) ?rak21
        case yak21 =>
         intro w' hSw
         try dsimp only at hSw
         go_simp
         try with_reducible rfl
        try simp only [Act.put, sA, sB, sC]
        refine wpAnyE_takeN (i := 22) (v := ?vak22) rfl (by kernel_rfl) (by kernel_rfl) (by kernel_rfl) (by rfl) (by kernel_rfl) (fun _ _ _ h => h) (Or.inl ⟨by rfl, ?yak22⟩) (hS _ hb9) ?rak22
        case yak22 =>
         intro w' hSw
         try dsimp only at hSw
         go_simp
         try with_reducible rfl
        try simp only [Act.put, sA, sB, sC]
        refine wpAnyE_done (by kernel_rfl) ?_ _
        go_wp2_with fail
        go_meet
        exact ⟨rfl, hb9⟩
       case rest =>
        obtain ⟨rfl, hbc2⟩ := hcut
        have hbU1 : Hid (Below H.heap.size H wc) := PK.out.1.trans (hbc2.mono PK.out.1.size)
        go_wp2
        go_roundw
        case rel => exact ⟨j + 1, _, rfl, by omega, by go_num, hbU1.out⟩
        case measure => simp [intOf]; omega
   · have hlt2 : ¬ (j : Int) < xs.valves.length := by omega
     go_wp2
     go_ret
     exact ⟨rfl, bwH.trans (hbV.mono bwH.size)⟩

end Go.Proofs.YtfmhkicncgccjaaGreat

