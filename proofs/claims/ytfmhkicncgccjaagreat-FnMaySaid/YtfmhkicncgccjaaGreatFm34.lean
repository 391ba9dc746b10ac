/- Joined: GpD. -/
import Derived.Deep.RegionHeld3
import Derived.Test.YtfmhkicncgccjaaGreatFm06
import Derived.Test.YtfmhkicncgccjaaGreatFm22
import Derived.Test.YtfmhkicncgccjaaGreatFm20
import Derived.Test.YtfmhkicncgccjaaGreatFm28
import Derived.Test.YtfmhkicncgccjaaGreatFm05
import Derived.Test.YtfmhkicncgccjaaGreatFm11
/- What the specification's l3Put answers. -/
namespace Go.Proofs.YtfmhkicncgccjaaGreat
open Go.RowKit Go.Sort
set_option linter.unusedSimpArgs false
set_option linter.unusedVariables false

set_option maxRecDepth 100000 in
set_option maxHeartbeats 8000000 in
theorem l3Put_own (x : Book) (y : Want) (f0 f1 f2 f3 : Option Addr) (k0 k1 k2 k3 : Nat) (A1 : Nat → Option Addr) (C1 : Nat → Nat) (A2 : Nat → Nat → Option Addr) (C2 : Nat → Nat → Nat) (a2 a3 a4 a5 : Option Addr) (c2 c3 c4 c5 : Nat) (N0 : Nat) (w : World)
 (own : OwnBook w x f0 f1 f2 f3 A1 C1 A2 C2) (cap : CapOf w 61 7 f3 x.parts.length k3) (lo : ∀ q, InBk x f0 f1 f2 f3 A1 A2 q → N0 ≤ q) (lo3 : ∀ q, InAddr f3 q → N0 ≤ q) (hN : N0 ≤ w.heap.size) (hnil : x.parts.length = 0 → f3 = none)
 (Bx : Nat) (tx : TypeId) (lx : List Value) (hx0 : Row w Bx tx lx) (hxn : ¬ InBk x f0 f1 f2 f3 A1 A2 Bx) (hy : ∀ X, Below N0 w X → WantIn X y a2 a3 a4 a5) (hw : wantB y = true) (hk : knowsB x y = true) (hl : ∀ j, j < x.spots.length → Lv 1000 (gp x.spots j) ∧ (gp x.spots j).may.length ≤ 8) (hs8 : x.spots.length ≤ 8) (hp6 : x.parts.length ≤ 6) :
 Calls Tryz.prog 165 #[bookV x f0 f1 f2 f3 k0 k1 k2 k3, wantW y a2 a3 a4 a5 c2 c3 c4 c5] w fun e w' => (∃ (f3' : Option Addr) (k3' : Nat) (A' : Nat → Option Addr) (C' : Nat → Nat) (A2' : Nat → Nat → Option Addr) (C2' : Nat → Nat → Nat), e = .returned (bookV (putAt x y) f0 f1 f2 f3' k0 k1 k2 k3') ∧ OwnBook w' (putAt x y) f0 f1 f2 f3' A' C' A2' C2' ∧ (∀ q, InBk (putAt x y) f0 f1 f2 f3' A' A2' q → N0 ≤ q ∧ q ≠ Bx) ∧ Row w' Bx tx lx) ∧ Below N0 w w' := by
 unfold bookV wantW
 obtain ⟨W0, hW0⟩ : ∃ W, W = ((w.alloc (.cells #[.slice f0 x.foes.length k0, .slice f1 x.spots.length k1, .slice f2 x.valves.length k2, .slice f3 x.parts.length k3, .int .i64 x.seen] 28)).alloc (.cells #[.int .i64 y.number, .int .i64 y.kind, .slice a2 y.stuffs.length c2, .slice a3 y.uses.length c3, .slice a4 y.opens.length c4, .slice a5 y.shuts.length c5] 38)).alloc (.cells #[.slice none 0 0, .slice none 0 0, .slice none 0 0, .slice none 0 0, .int .i64 0] 28) := ⟨_, rfl⟩
 have b0 : Below w.heap.size w W0 := by rw [hW0]; exact (((Below.refl _ _).alloc (Nat.le_refl _) _).alloc (by simp) _).alloc (by simp; omega) _
 have i0 : Row W0 w.heap.size 28 [.slice f0 x.foes.length k0, .slice f1 x.spots.length k1, .slice f2 x.valves.length k2, .slice f3 x.parts.length k3, .int .i64 x.seen] := by rw [hW0]; exact ((Row.new _ _ _).alloc _).alloc _
 have n0 : Row W0 (w.heap.size + 1) 38 [.int .i64 y.number, .int .i64 y.kind, .slice a2 y.stuffs.length c2, .slice a3 y.uses.length c3, .slice a4 y.opens.length c4, .slice a5 y.shuts.length c5] := by
  rw [hW0]
  have := (Row.new (w.alloc (.cells #[.slice f0 x.foes.length k0, .slice f1 x.spots.length k1, .slice f2 x.valves.length k2, .slice f3 x.parts.length k3, .int .i64 x.seen] 28)) 38 [.int .i64 y.number, .int .i64 y.kind, .slice a2 y.stuffs.length c2, .slice a3 y.uses.length c3, .slice a4 y.opens.length c4, .slice a5 y.shuts.length c5]).alloc (.cells #[.slice none 0 0, .slice none 0 0, .slice none 0 0, .slice none 0 0, .int .i64 0] 28)
  simpa using this
 have z0 : Row W0 (w.heap.size + 1 + 1) 28 [.slice none 0 0, .slice none 0 0, .slice none 0 0, .slice none 0 0, .int .i64 0] := by
  rw [hW0]
  have := Row.new ((w.alloc (.cells #[.slice f0 x.foes.length k0, .slice f1 x.spots.length k1, .slice f2 x.valves.length k2, .slice f3 x.parts.length k3, .int .i64 x.seen] 28)).alloc (.cells #[.int .i64 y.number, .int .i64 y.kind, .slice a2 y.stuffs.length c2, .slice a3 y.uses.length c3, .slice a4 y.opens.length c4, .slice a5 y.shuts.length c5] 38)) 28 [.slice none 0 0, .slice none 0 0, .slice none 0 0, .slice none 0 0, .int .i64 0]
  simpa using this
 have sz0 : W0.heap.size = w.heap.size + 3 := by rw [hW0]; simp
 have own0 := own.later b0
 have x0 := hx0.later b0
 have hbx := hx0.lt
 have cap0 := cap.later b0
 have HLO : Hid ((∀ q, InBk x f0 f1 f2 f3 A1 A2 q → N0 ≤ q ∧ q < w.heap.size) ∧ ∀ q, InAddr f3 q → N0 ≤ q ∧ q < w.heap.size) := ⟨fun q hq => ⟨lo q hq, own.lt hq⟩, fun q hq => ⟨lo3 q hq, cap.lt hq⟩⟩
 have hul : y.uses.length ≤ 8 := by
  unfold wantB at hw
  simp only [Bool.and_eq_true] at hw
  have := usesS_len hw.1.1.1.1.1.1.1.2
  omega
 have hsl : y.stuffs.length ≤ 8 := by
  unfold wantB at hw
  simp only [Bool.and_eq_true] at hw
  have := namesB_len hw.1.2
  omega
 have CAPN : Hid (∀ q, InAddr f3 q → InSlot f3 x.parts.length q) := fun q hq => ⟨fun h0 => (by rw [hnil h0] at hq; obtain ⟨_, h⟩ := hq; cases h), hq⟩
 have HB0 : Hid (Below w.heap.size w W0 ∧ W0.heap.size = w.heap.size + 3) := ⟨b0, sz0⟩
 go_enter Tryz.func165, Tryz.ntmps165
 go_wp2_with fail
 rw [← hW0]
 clear hW0 own cap lo lo3 b0 sz0
 go_loopw [5] (fun i wr => ∃ (k : Nat) (A : Nat → Option Addr) (C : Nat → Nat) (X : World), X = wr ∧ k ≤ y.uses.length ∧ i = .int .i64 k ∧ Below N0 w X ∧ W0.heap.size ≤ X.heap.size ∧ Row X w.heap.size 28 [.slice f0 x.foes.length k0, .slice f1 x.spots.length k1, .slice f2 x.valves.length k2, .slice f3 x.parts.length k3, .int .i64 x.seen] ∧
  Row X (w.heap.size + 1) 38 [.int .i64 y.number, .int .i64 y.kind, .slice a2 y.stuffs.length c2, .slice a3 y.uses.length c3, .slice a4 y.opens.length c4, .slice a5 y.shuts.length c5] ∧ Row X (w.heap.size + 1 + 1) 28 [.slice none 0 0, .slice none 0 0, .slice none 0 0, .slice none 0 0, .int .i64 0] ∧ Row X Bx tx lx ∧
  OwnBook X ⟨x.foes, upTo (grantS y.stuffs) x.spots y.uses k, x.valves, x.parts, x.seen⟩ f0 f1 f2 f3 A C A2 C2 ∧ CapOf X 61 7 f3 x.parts.length k3 ∧ (∀ q, InBk ⟨x.foes, upTo (grantS y.stuffs) x.spots y.uses k, x.valves, x.parts, x.seen⟩ f0 f1 f2 f3 A A2 q → N0 ≤ q ∧ q ≠ Bx ∧ (q < w.heap.size ∨ W0.heap.size ≤ q))) (fun i _ => y.uses.length - (intOf i).toNat)
 case atStart =>
  exact ⟨0, A1, C1, _, rfl, Nat.zero_le _, rfl, HB0.out.1.mono hN, Nat.le_refl _, i0, n0, z0, x0, own0, cap0, fun q hq => ⟨(HLO.out.1 q hq).1, fun e => hxn (e ▸ hq), Or.inl (HLO.out.1 q hq).2⟩⟩
 case round =>
  obtain ⟨k, A, C, X, rfl, hkl, rfl, bX, sX, iX, nX, zX, xX, own, cap, lo⟩ := hrel
  clear i0 n0 z0 x0 own0 cap0
  have q3 := nX.cell 3 rfl
  by_cases hlt : k < y.uses.length
  · obtain ⟨bu, ou, ha, hbu, hc0, hc1, hc2⟩ := ((hy X bX).uses).at hlt
    subst ha
    have hlt2 : (k : Int) < y.uses.length := by omega
    have hk0 : (0 : Int) ≤ k := by omega
    obtain ⟨j, hj, hji⟩ := knowsB_spot hk hlt
    have hul' := upTo_length (grantS y.stuffs) x.spots y.uses k
    have hlv := (upTo_grant hw hl k (by omega) j hj)
    have hsp := upTo_spotI (f := grantS y.stuffs) (fun _ _ => rfl) x.spots y.uses (k := k) (by omega) (gu y.uses k).name
    have hup : upTo (grantS y.stuffs) x.spots y.uses (k + 1) = (upTo (grantS y.stuffs) x.spots y.uses k).set j (grantS y.stuffs (gp (upTo (grantS y.stuffs) x.spots y.uses k) j) (gu y.uses k)) := by
     conv => lhs; unfold upTo
     rw [hji]
     rfl
    have ham := wantB_amount hw hlt
    have HUP : Hid (upTo (grantS y.stuffs) x.spots y.uses (k + 1) = (upTo (grantS y.stuffs) x.spots y.uses k).set j (grantS y.stuffs (gp (upTo (grantS y.stuffs) x.spots y.uses k) j) (gu y.uses k))) := hup
    clear hup
    generalize upTo (grantS y.stuffs) x.spots y.uses k = cur at own lo hul' hlv hsp HUP
    obtain ⟨b1, rfl⟩ := own.spots.row.some_of (by dsimp only; omega)
    have hneq4 : b1 ≠ Bx := fun e => hxn (e ▸ Or.inr (Or.inl (Or.inl ⟨by omega, 0, rfl⟩)))
    obtain ⟨X1, hX1⟩ : ∃ W, W = X.alloc (.cells #[.string (gu y.uses k).name, .int .i64 (gu y.uses k).role, .int .i64 (gu y.uses k).amount] 101) := ⟨_, rfl⟩
    have b1' : Below X.heap.size X X1 := by rw [hX1]; exact (Below.refl _ _).alloc (Nat.le_refl _) _
    have u1 : Row X1 X.heap.size 101 [.string (gu y.uses k).name, .int .i64 (gu y.uses k).role, .int .i64 (gu y.uses k).amount] := by rw [hX1]; exact Row.new _ _ _
    have bX1 := bX.trans (b1'.mono (Nat.le_trans hN bX.size))
    have iX1 := iX.later b1'
    have own1 := own.later b1'
    have q0 := iX1.cell 0 rfl
    have q1 := iX1.cell 1 rfl
    have q2 := iX1.cell 2 rfl
    have q3' := iX1.cell 3 rfl
    have q4 := iX1.cell 4 rfl
    rw [hX1] at q0 q1 q2 q3' q4
    have hspot := l2Spot_any ⟨x.foes, cur, x.valves, x.parts, x.seen⟩ f0 (some ⟨b1, 0, none⟩) f2 f3 k0 k1 k2 k3 (gu y.uses k).name X1 own1.spots.at_ (by dsimp only; unfold maxLen; omega)
    dsimp only at hspot
    rw [hsp, hji] at hspot
    unfold bookV at hspot
    dsimp only at hspot
    rw [hul'] at hspot
    go_wp2_with fail
    rw [← hX1]
    clear hX1 q0 q1 q2 q3' q4
    refine hspot.mono ?_
    rintro e X2 ⟨rfl, hb2⟩
    clear hspot
    -- UP FROM HERE
    have bX2 := bX1.trans (hb2.mono (Nat.le_trans hN bX1.size))
    have iX2 := iX1.later hb2
    have nX2 := (nX.later b1').later hb2
    have zX2 := (zX.later b1').later hb2
    have xX2 := (xX.later b1').later hb2
    have u2 := u1.later hb2
    have own2 := own1.later hb2
    have cap2 := (cap.later b1').later hb2
    have s2 := u2.lt
    have hb1 : N0 ≤ b1 ∧ b1 < w.heap.size := HLO.out.1 b1 (Or.inr (Or.inl (Or.inl ⟨by omega, 0, rfl⟩)))
    clear b1' u1 bX1 iX1 own1 hb2 iX nX zX xX own cap q3 hc0 hc1 hc2
    have hjc : j < cur.length := by omega
    have hj2 : (j : Int) < x.spots.length := by omega
    have hj0 : (0 : Int) ≤ j := by omega
    have LOX : Hid (∀ q, InBk ⟨x.foes, cur, x.valves, x.parts, x.seen⟩ f0 (some ⟨b1, 0, none⟩) f2 f3 A A2 q → N0 ≤ q ∧ q ≠ Bx ∧ (q < w.heap.size ∨ W0.heap.size ≤ q)) := lo
    clear lo
    have hlv2 := hlv.1
    have hlv3 := hlv.2
    have hneq : b1 ≠ w.heap.size := by omega
    have hneq1 : b1 ≠ w.heap.size + 1 := by omega
    have hneq2 : b1 ≠ w.heap.size + 1 + 1 := by omega
    have hneq3 : b1 ≠ X.heap.size := by have := bX.size; omega
    have q1 := iX2.cell 1 rfl
    have p1 := u2.cell 1 rfl
    have p2 := u2.cell 2 rfl
    by_cases e1 : (gu y.uses k).role = 1
    · have e1b : ((gu y.uses k).role == 1) = true := by simp [e1]
      have e1n : ((gu y.uses k).role != 1) = false := by simp [e1]
      have e2b : ((gu y.uses k).role == 2) = false := by simp [e1]
      have HG : Hid (grantS y.stuffs (gp cur j) (gu y.uses k) = ⟨(gp cur j).name, (gp cur j).cap, (gp cur j).least - (gu y.uses k).amount, (gp cur j).most, (gp cur j).may⟩) := (by unfold grantS; rw [e1]; simp : _ = _)
      clear e1
      obtain ⟨cl, cf, -⟩ := own2.spots.row.cellAt hjc (by omega : 2 < 5)
      have cl : X2.cell? ⟨b1, j * 5 + 2, none⟩ = some (.int .i64 (gp cur j).least) := cl
      have hwr : wrap64 ((gp cur j).least - (gu y.uses k).amount) = (gp cur j).least - (gu y.uses k).amount := by unfold Lv at hlv2; unfold wrap64; omega
      have hS0 : X2.drew.cell? ⟨w.heap.size, 1, none⟩ = some (.slice (some ⟨b1, 0, none⟩) x.spots.length k1) ∧ X2.drew.cell? ⟨b1, j * 5 + 2, none⟩ = some (.int .i64 (gp cur j).least) ∧ X2.drew.cell? ⟨X.heap.size, 2, none⟩ = some (.int .i64 (gu y.uses k).amount) := ⟨q1, cl, p2⟩
      go_wp2_with fail
      refine wp_region_E (fun w' => w'.cell? ⟨w.heap.size, 1, none⟩ = some (.slice (some ⟨b1, 0, none⟩) x.spots.length k1) ∧ w'.cell? ⟨b1, j * 5 + 2, none⟩ = some (.int .i64 (gp cur j).least) ∧ w'.cell? ⟨X.heap.size, 2, none⟩ = some (.int .i64 (gu y.uses k).amount)) 14 (by kernel_rfl) ?_
      refine tk 0 ?vap0 rfl (by kernel_rfl) (fun _ _ _ h => h) (by rfl) hS0 ?yap0 ?rap0
      case yap0 => intro w' h; (try dsimp only at h); go_simp; (try with_reducible rfl)
      try simp only [Act.put, sA, sB, sC]
      refine tk 1 ?vap1 rfl (by kernel_rfl) (fun _ _ _ h => h) (by rfl) hS0 ?yap1 ?rap1
      case yap1 => intro w' h; (try dsimp only at h); go_simp; (try with_reducible rfl)
      try simp only [Act.put, sA, sB, sC]
      refine tk 2 ?vap2 rfl (by kernel_rfl) (fun _ _ _ h => h) (by rfl) hS0 ?yap2 ?rap2
      case yap2 => intro w' h; (try dsimp only at h); go_simp; (try with_reducible rfl)
      try simp only [Act.put, sA, sB, sC]
      refine tk 3 ?vap3 rfl (by kernel_rfl) (fun _ _ _ h => h) (by rfl) hS0 ?yap3 ?rap3
      case yap3 => intro w' h; (try dsimp only at h); go_simp; (try with_reducible rfl)
      try simp only [Act.put, sA, sB, sC]
      refine tk 4 ?vap4 rfl (by kernel_rfl) (fun _ _ _ h => h) (by rfl) hS0 ?yap4 ?rap4
      case yap4 => intro w' h; (try dsimp only at h); go_simp; (try with_reducible rfl)
      try simp only [Act.put, sA, sB, sC]
      refine tk 5 ?vap5 rfl (by kernel_rfl) (fun _ _ _ h => h) (by rfl) hS0 ?yap5 ?rap5
      case yap5 => intro w' h; (try dsimp only at h); go_simp; (try with_reducible rfl)
      try simp only [Act.put, sA, sB, sC]
      refine tk 6 ?vap6 rfl (by kernel_rfl) (fun _ _ _ h => h) (by rfl) hS0 ?yap6 ?rap6
      case yap6 => intro w' h; (try dsimp only at h); go_simp; (try with_reducible rfl)
      try simp only [Act.put, sA, sB, sC]
      refine tk 7 ?vap7 rfl (by kernel_rfl) (fun _ _ _ h => h) (by rfl) hS0 ?yap7 ?rap7
      case yap7 => intro w' h; (try dsimp only at h); go_simp; (try with_reducible rfl)
      try simp only [Act.put, sA, sB, sC]
      refine tk 8 ?vap8 rfl (by kernel_rfl) (fun _ _ _ h => h) (by rfl) hS0 ?yap8 ?rap8
      case yap8 => intro w' h; (try dsimp only at h); go_simp; (try with_reducible rfl)
      try simp only [Act.put, sA, sB, sC]
      refine tk 9 ?vap9 rfl (by kernel_rfl) (fun _ _ _ h => h) (by rfl) hS0 ?yap9 ?rap9
      case yap9 => intro w' h; (try dsimp only at h); go_simp; (try with_reducible rfl)
      try simp only [Act.put, sA, sB, sC]
      refine tk 10 ?vap10 rfl (by kernel_rfl) (fun _ _ _ h => h) (by rfl) hS0 ?yap10 ?rap10
      case yap10 => intro w' h; (try dsimp only at h); go_simp; (try with_reducible rfl)
      try simp only [Act.put, sA, sB, sC]
      refine tk 11 ?vap11 rfl (by kernel_rfl) (fun _ _ _ h => h) (by rfl) hS0 ?yap11 ?rap11
      case yap11 => intro w' h; (try dsimp only at h); go_simp; (try with_reducible rfl)
      try simp only [Act.put, sA, sB, sC]
      try rw [hwr]
      refine wpAnyE_oneC (i := 12) rfl (by kernel_rfl) ?_
      intro K hK
      rw [if_pos (by rfl)]
      go_wp2_with fail
      refine hK.out _ _ (fun _ => hS0) ?_
      clear hK K
      try simp only [Act.put, sA, sB, sC]
      refine wpAnyE_oneC (i := 13) rfl (by kernel_rfl) ?_
      intro K hK
      rw [if_pos (by rfl)]
      go_wp2_with fail
      refine hK.out _ _ (fun _ => hS0) ?_
      clear hK K
      try simp only [Act.put, sA, sB, sC]
      refine wpAnyE_oneC (i := 14) rfl (by kernel_rfl) ?_
      intro K hK
      rw [if_pos (by rfl)]
      go_wp2_with fail
      refine hK.out _ _ (fun h => absurd rfl h) ?_
      clear hK K
      try simp only [Act.put, sA, sB, sC]
      refine wpAnyE_done (by kernel_rfl) ?_ _
      try rw [hwr]
      clear hS0 cl cf q1 p1 p2
      have sp3 : OwnSpots (X2.setCell ⟨b1, j * 5 + 2, none⟩ (.int .i64 ((gp cur j).least - (gu y.uses k).amount))) (some ⟨b1, 0, none⟩) (cur.set j ⟨(gp cur j).name, (gp cur j).cap, (gp cur j).least - (gu y.uses k).amount, (gp cur j).most, (gp cur j).may⟩) A C := own2.spots.setLeast hjc _
      have own3 := own2.withSpots (n := x.seen) (by dsimp only; omega) sp3 (Only.cell X2 ⟨b1, j * 5 + 2, none⟩ (.int .i64 ((gp cur j).least - (gu y.uses k).amount))) (fun q hq => own2.lt hq) (fun q hq => Or.inl (inSp_same (s := ⟨(gp cur j).name, (gp cur j).cap, (gp cur j).least - (gu y.uses k).amount, (gp cur j).most, (gp cur j).may⟩) hjc rfl hq))
      have iX4 := iX2.other (a := ⟨b1, j * 5 + 2, none⟩) (fun h => hneq h.symm) (.int .i64 ((gp cur j).least - (gu y.uses k).amount))
      have nX4 := nX2.other (a := ⟨b1, j * 5 + 2, none⟩) (fun h => hneq1 h.symm) (.int .i64 ((gp cur j).least - (gu y.uses k).amount))
      have zX4 := zX2.other (a := ⟨b1, j * 5 + 2, none⟩) (fun h => hneq2 h.symm) (.int .i64 ((gp cur j).least - (gu y.uses k).amount))
      have xX4 := xX2.other (a := ⟨b1, j * 5 + 2, none⟩) (fun h => hneq4 h.symm) (.int .i64 ((gp cur j).least - (gu y.uses k).amount))
      have u4 := u2.other (a := ⟨b1, j * 5 + 2, none⟩) (fun h => hneq3 h.symm) (.int .i64 ((gp cur j).least - (gu y.uses k).amount))
      have bX4 := bX2.setCell (p := ⟨b1, j * 5 + 2, none⟩) hb1.1 (.int .i64 ((gp cur j).least - (gu y.uses k).amount))
      have sX4 : W0.heap.size ≤ (X2.setCell ⟨b1, j * 5 + 2, none⟩ (.int .i64 ((gp cur j).least - (gu y.uses k).amount))).heap.size := by rw [Go.Deep.nblk_setCell]; omega
      have cap4 := cap2.only (Only.cell X2 ⟨b1, j * 5 + 2, none⟩ (.int .i64 ((gp cur j).least - (gu y.uses k).amount))) (fun q hq e => own2.d13 b1 (Or.inl ⟨by dsimp only; omega, 0, rfl⟩) (by have e' : q = b1 := e; rw [← e']; exact Or.inl (CAPN.out q hq)))
      have LO4 : Hid (∀ q, InBk ⟨x.foes, cur.set j ⟨(gp cur j).name, (gp cur j).cap, (gp cur j).least - (gu y.uses k).amount, (gp cur j).most, (gp cur j).may⟩, x.valves, x.parts, x.seen⟩ f0 (some ⟨b1, 0, none⟩) f2 f3 A A2 q → N0 ≤ q ∧ q ≠ Bx ∧ (q < w.heap.size ∨ W0.heap.size ≤ q)) := fun q hq => LOX.out q (hq.imp id (Or.imp (fun h => inSp_same (s := ⟨(gp cur j).name, (gp cur j).cap, (gp cur j).least - (gu y.uses k).amount, (gp cur j).most, (gp cur j).may⟩) hjc rfl h) id))
      obtain ⟨X4, hX4⟩ : ∃ W, W = (X2.setCell ⟨b1, j * 5 + 2, none⟩ (.int .i64 ((gp cur j).least - (gu y.uses k).amount))).drew := ⟨_, rfl⟩
      have hbd := Below.drew (Below.refl (X2.setCell ⟨b1, j * 5 + 2, none⟩ (.int .i64 ((gp cur j).least - (gu y.uses k).amount))).heap.size (X2.setCell ⟨b1, j * 5 + 2, none⟩ (.int .i64 ((gp cur j).least - (gu y.uses k).amount))))
      rw [← hX4] at hbd ⊢
      have own3 := own3.later hbd
      have iX4 := iX4.later hbd
      have nX4 := nX4.later hbd
      have zX4 := zX4.later hbd
      have xX4 := xX4.later hbd
      have u4 := u4.later hbd
      have cap4 := cap4.later hbd
      have bX4 := bX4.trans (hbd.mono (Nat.le_trans hN bX4.size))
      have sX4 := Nat.le_trans sX4 hbd.size
      clear hX4 sp3 own2 iX2 nX2 zX2 xX2 u2 bX2 hbd cap2 LOX hwr
      have p1 := u4.cell 1 rfl
      have q2 := nX4.cell 2 rfl
      have OWN : Hid _ := own3
      clear own3
      go_wp2_with fail
      refine wp_loop_rounds 1 ?_
      rw [rounds_succ]
      by_cases hst : (0 : Int) < y.stuffs.length
      · go_wp2
        go_roundw
        case rel => exact ⟨k + 1, A, C, _, rfl, by omega, by go_num, bX4, sX4, iX4, nX4, zX4, xX4, by rw [HUP.out, HG.out]; exact OWN.out, cap4, by rw [HUP.out, HG.out]; exact LO4.out⟩
        case measure => simp [intOf]; omega
      · go_wp2
        go_roundw
        case rel => exact ⟨k + 1, A, C, _, rfl, by omega, by go_num, bX4, sX4, iX4, nX4, zX4, xX4, by rw [HUP.out, HG.out]; exact OWN.out, cap4, by rw [HUP.out, HG.out]; exact LO4.out⟩
        case measure => simp [intOf]; omega
    · have e1b : ((gu y.uses k).role == 1) = false := by simp [e1]
      have e1n : ((gu y.uses k).role != 1) = true := by simp [e1]
      by_cases e2 : (gu y.uses k).role = 2
      · have e2b : ((gu y.uses k).role == 2) = true := by simp [e2]
        have HG : Hid (grantS y.stuffs (gp cur j) (gu y.uses k) = ⟨(gp cur j).name, (gp cur j).cap, (gp cur j).least, (gp cur j).most + (gu y.uses k).amount, insTo (gp cur j).may y.stuffs y.stuffs.length⟩) := (by unfold grantS; rw [e2]; simp : _ = _)
        clear e1 e2
        obtain ⟨cl, cf, -⟩ := own2.spots.row.cellAt hjc (by omega : 3 < 5)
        have cl : X2.cell? ⟨b1, j * 5 + 3, none⟩ = some (.int .i64 (gp cur j).most) := cl
        have hwr : wrap64 ((gp cur j).most + (gu y.uses k).amount) = (gp cur j).most + (gu y.uses k).amount := by unfold Lv at hlv2; unfold wrap64; omega
        have hS0 : X2.drew.cell? ⟨w.heap.size, 1, none⟩ = some (.slice (some ⟨b1, 0, none⟩) x.spots.length k1) ∧ X2.drew.cell? ⟨b1, j * 5 + 3, none⟩ = some (.int .i64 (gp cur j).most) ∧ X2.drew.cell? ⟨X.heap.size, 2, none⟩ = some (.int .i64 (gu y.uses k).amount) := ⟨q1, cl, p2⟩
        go_wp2_with fail
        refine wp_region_E (fun w' => w'.cell? ⟨w.heap.size, 1, none⟩ = some (.slice (some ⟨b1, 0, none⟩) x.spots.length k1) ∧ w'.cell? ⟨b1, j * 5 + 3, none⟩ = some (.int .i64 (gp cur j).most) ∧ w'.cell? ⟨X.heap.size, 2, none⟩ = some (.int .i64 (gu y.uses k).amount)) 14 (by kernel_rfl) ?_
        refine tk 0 ?vaq0 rfl (by kernel_rfl) (fun _ _ _ h => h) (by rfl) hS0 ?yaq0 ?raq0
        case yaq0 => intro w' h; (try dsimp only at h); go_simp; (try with_reducible rfl)
        try simp only [Act.put, sA, sB, sC]
        refine tk 1 ?vaq1 rfl (by kernel_rfl) (fun _ _ _ h => h) (by rfl) hS0 ?yaq1 ?raq1
        case yaq1 => intro w' h; (try dsimp only at h); go_simp; (try with_reducible rfl)
        try simp only [Act.put, sA, sB, sC]
        refine tk 2 ?vaq2 rfl (by kernel_rfl) (fun _ _ _ h => h) (by rfl) hS0 ?yaq2 ?raq2
        case yaq2 => intro w' h; (try dsimp only at h); go_simp; (try with_reducible rfl)
        try simp only [Act.put, sA, sB, sC]
        refine tk 3 ?vaq3 rfl (by kernel_rfl) (fun _ _ _ h => h) (by rfl) hS0 ?yaq3 ?raq3
        case yaq3 => intro w' h; (try dsimp only at h); go_simp; (try with_reducible rfl)
        try simp only [Act.put, sA, sB, sC]
        refine tk 4 ?vaq4 rfl (by kernel_rfl) (fun _ _ _ h => h) (by rfl) hS0 ?yaq4 ?raq4
        case yaq4 => intro w' h; (try dsimp only at h); go_simp; (try with_reducible rfl)
        try simp only [Act.put, sA, sB, sC]
        refine tk 5 ?vaq5 rfl (by kernel_rfl) (fun _ _ _ h => h) (by rfl) hS0 ?yaq5 ?raq5
        case yaq5 => intro w' h; (try dsimp only at h); go_simp; (try with_reducible rfl)
        try simp only [Act.put, sA, sB, sC]
        refine tk 6 ?vaq6 rfl (by kernel_rfl) (fun _ _ _ h => h) (by rfl) hS0 ?yaq6 ?raq6
        case yaq6 => intro w' h; (try dsimp only at h); go_simp; (try with_reducible rfl)
        try simp only [Act.put, sA, sB, sC]
        refine tk 7 ?vaq7 rfl (by kernel_rfl) (fun _ _ _ h => h) (by rfl) hS0 ?yaq7 ?raq7
        case yaq7 => intro w' h; (try dsimp only at h); go_simp; (try with_reducible rfl)
        try simp only [Act.put, sA, sB, sC]
        refine tk 8 ?vaq8 rfl (by kernel_rfl) (fun _ _ _ h => h) (by rfl) hS0 ?yaq8 ?raq8
        case yaq8 => intro w' h; (try dsimp only at h); go_simp; (try with_reducible rfl)
        try simp only [Act.put, sA, sB, sC]
        refine tk 9 ?vaq9 rfl (by kernel_rfl) (fun _ _ _ h => h) (by rfl) hS0 ?yaq9 ?raq9
        case yaq9 => intro w' h; (try dsimp only at h); go_simp; (try with_reducible rfl)
        try simp only [Act.put, sA, sB, sC]
        refine tk 10 ?vaq10 rfl (by kernel_rfl) (fun _ _ _ h => h) (by rfl) hS0 ?yaq10 ?raq10
        case yaq10 => intro w' h; (try dsimp only at h); go_simp; (try with_reducible rfl)
        try simp only [Act.put, sA, sB, sC]
        refine tk 11 ?vaq11 rfl (by kernel_rfl) (fun _ _ _ h => h) (by rfl) hS0 ?yaq11 ?raq11
        case yaq11 => intro w' h; (try dsimp only at h); go_simp; (try with_reducible rfl)
        try simp only [Act.put, sA, sB, sC]
        try rw [hwr]
        refine wpAnyE_oneC (i := 12) rfl (by kernel_rfl) ?_
        intro K hK
        rw [if_pos (by rfl)]
        go_wp2_with fail
        refine hK.out _ _ (fun _ => hS0) ?_
        clear hK K
        try simp only [Act.put, sA, sB, sC]
        refine wpAnyE_oneC (i := 13) rfl (by kernel_rfl) ?_
        intro K hK
        rw [if_pos (by rfl)]
        go_wp2_with fail
        refine hK.out _ _ (fun _ => hS0) ?_
        clear hK K
        try simp only [Act.put, sA, sB, sC]
        refine wpAnyE_oneC (i := 14) rfl (by kernel_rfl) ?_
        intro K hK
        rw [if_pos (by rfl)]
        go_wp2_with fail
        refine hK.out _ _ (fun h => absurd rfl h) ?_
        clear hK K
        try simp only [Act.put, sA, sB, sC]
        refine wpAnyE_done (by kernel_rfl) ?_ _
        try rw [hwr]
        clear hS0 cl cf q1 p1 p2
        have sp3 : OwnSpots (X2.setCell ⟨b1, j * 5 + 3, none⟩ (.int .i64 ((gp cur j).most + (gu y.uses k).amount))) (some ⟨b1, 0, none⟩) (cur.set j ⟨(gp cur j).name, (gp cur j).cap, (gp cur j).least, (gp cur j).most + (gu y.uses k).amount, (gp cur j).may⟩) A C := own2.spots.setMost hjc _
        have own3 := own2.withSpots (n := x.seen) (by dsimp only; omega) sp3 (Only.cell X2 ⟨b1, j * 5 + 3, none⟩ (.int .i64 ((gp cur j).most + (gu y.uses k).amount))) (fun q hq => own2.lt hq) (fun q hq => Or.inl (inSp_same (s := ⟨(gp cur j).name, (gp cur j).cap, (gp cur j).least, (gp cur j).most + (gu y.uses k).amount, (gp cur j).may⟩) hjc rfl hq))
        have iX4 := iX2.other (a := ⟨b1, j * 5 + 3, none⟩) (fun h => hneq h.symm) (.int .i64 ((gp cur j).most + (gu y.uses k).amount))
        have nX4 := nX2.other (a := ⟨b1, j * 5 + 3, none⟩) (fun h => hneq1 h.symm) (.int .i64 ((gp cur j).most + (gu y.uses k).amount))
        have zX4 := zX2.other (a := ⟨b1, j * 5 + 3, none⟩) (fun h => hneq2 h.symm) (.int .i64 ((gp cur j).most + (gu y.uses k).amount))
        have xX4 := xX2.other (a := ⟨b1, j * 5 + 3, none⟩) (fun h => hneq4 h.symm) (.int .i64 ((gp cur j).most + (gu y.uses k).amount))
        have u4 := u2.other (a := ⟨b1, j * 5 + 3, none⟩) (fun h => hneq3 h.symm) (.int .i64 ((gp cur j).most + (gu y.uses k).amount))
        have bX4 := bX2.setCell (p := ⟨b1, j * 5 + 3, none⟩) hb1.1 (.int .i64 ((gp cur j).most + (gu y.uses k).amount))
        have sX4 : W0.heap.size ≤ (X2.setCell ⟨b1, j * 5 + 3, none⟩ (.int .i64 ((gp cur j).most + (gu y.uses k).amount))).heap.size := by rw [Go.Deep.nblk_setCell]; omega
        have cap4 := cap2.only (Only.cell X2 ⟨b1, j * 5 + 3, none⟩ (.int .i64 ((gp cur j).most + (gu y.uses k).amount))) (fun q hq e => own2.d13 b1 (Or.inl ⟨by dsimp only; omega, 0, rfl⟩) (by have e' : q = b1 := e; rw [← e']; exact Or.inl (CAPN.out q hq)))
        have LO4 : Hid (∀ q, InBk ⟨x.foes, cur.set j ⟨(gp cur j).name, (gp cur j).cap, (gp cur j).least, (gp cur j).most + (gu y.uses k).amount, (gp cur j).may⟩, x.valves, x.parts, x.seen⟩ f0 (some ⟨b1, 0, none⟩) f2 f3 A A2 q → N0 ≤ q ∧ q ≠ Bx ∧ (q < w.heap.size ∨ W0.heap.size ≤ q)) := fun q hq => LOX.out q (hq.imp id (Or.imp (fun h => inSp_same (s := ⟨(gp cur j).name, (gp cur j).cap, (gp cur j).least, (gp cur j).most + (gu y.uses k).amount, (gp cur j).may⟩) hjc rfl h) id))
        obtain ⟨X4, hX4⟩ : ∃ W, W = (X2.setCell ⟨b1, j * 5 + 3, none⟩ (.int .i64 ((gp cur j).most + (gu y.uses k).amount))).drew := ⟨_, rfl⟩
        have hbd := Below.drew (Below.refl (X2.setCell ⟨b1, j * 5 + 3, none⟩ (.int .i64 ((gp cur j).most + (gu y.uses k).amount))).heap.size (X2.setCell ⟨b1, j * 5 + 3, none⟩ (.int .i64 ((gp cur j).most + (gu y.uses k).amount))))
        rw [← hX4] at hbd ⊢
        have own3 := own3.later hbd
        have iX4 := iX4.later hbd
        have nX4 := nX4.later hbd
        have zX4 := zX4.later hbd
        have xX4 := xX4.later hbd
        have u4 := u4.later hbd
        have cap4 := cap4.later hbd
        have bX4 := bX4.trans (hbd.mono (Nat.le_trans hN bX4.size))
        have sX4 := Nat.le_trans sX4 hbd.size
        clear hX4 sp3 own2 iX2 nX2 zX2 xX2 u2 bX2 hbd cap2 LOX hwr
        have OWN : Hid _ := own3
        clear own3
        have q2 := nX4.cell 2 rfl
        have p1 := u4.cell 1 rfl
        go_wp2_with fail
        go_loopw [8] (fun i wr => ∃ (n : Nat) (A' : Nat → Option Addr) (C' : Nat → Nat) (Y : World), Y = wr ∧ n ≤ y.stuffs.length ∧ i = .int .i64 n ∧ Below N0 w Y ∧ W0.heap.size ≤ Y.heap.size ∧ Row Y w.heap.size 28 [.slice f0 x.foes.length k0, .slice (some ⟨b1, 0, none⟩) x.spots.length k1, .slice f2 x.valves.length k2, .slice f3 x.parts.length k3, .int .i64 x.seen] ∧ Row Y (w.heap.size + 1) 38 [.int .i64 y.number, .int .i64 y.kind, .slice a2 y.stuffs.length c2, .slice (some ⟨bu, ou, none⟩) y.uses.length c3, .slice a4 y.opens.length c4, .slice a5 y.shuts.length c5] ∧ Row Y (w.heap.size + 1 + 1) 28 [.slice none 0 0, .slice none 0 0, .slice none 0 0, .slice none 0 0, .int .i64 0] ∧ Row Y Bx tx lx ∧ Row Y X.heap.size 101 [.string (gu y.uses k).name, .int .i64 (gu y.uses k).role, .int .i64 (gu y.uses k).amount] ∧ OwnBook Y ⟨x.foes, cur.set j ⟨(gp cur j).name, (gp cur j).cap, (gp cur j).least, (gp cur j).most + (gu y.uses k).amount, insTo (gp cur j).may y.stuffs n⟩, x.valves, x.parts, x.seen⟩ f0 (some ⟨b1, 0, none⟩) f2 f3 A' C' A2 C2 ∧ CapOf Y 61 7 f3 x.parts.length k3 ∧ (∀ q, InBk ⟨x.foes, cur.set j ⟨(gp cur j).name, (gp cur j).cap, (gp cur j).least, (gp cur j).most + (gu y.uses k).amount, insTo (gp cur j).may y.stuffs n⟩, x.valves, x.parts, x.seen⟩ f0 (some ⟨b1, 0, none⟩) f2 f3 A' A2 q → N0 ≤ q ∧ q ≠ Bx ∧ (q < w.heap.size ∨ W0.heap.size ≤ q))) (fun i _ => y.stuffs.length - (intOf i).toNat)
        case atStart => exact ⟨0, A, C, _, rfl, Nat.zero_le _, rfl, bX4, sX4, iX4, nX4, zX4, xX4, u4, by rw [insTo_zero]; exact OWN.out, cap4, by rw [insTo_zero]; exact LO4.out⟩
        case round =>
         clear bX4 sX4 iX4 nX4 zX4 xX4 u4 OWN cap4 LO4 q2 p1
         obtain ⟨n, A', C', Y, rfl, hn, rfl, bY, sY, iY, nY, zY, xY, uY, own, cap, lo⟩ := hrel
         have q2 := nY.cell 2 rfl
         have p1 := uY.cell 1 rfl
         by_cases hnl : n < y.stuffs.length
         · obtain ⟨bs, os, hs, hbs, hcs⟩ := ((hy Y bY).stuffs).at hnl
           subst hs
           have hnl2 : (n : Int) < y.stuffs.length := by omega
           have hn0 : (0 : Int) ≤ n := by omega
           have hcl : (cur.set j ⟨(gp cur j).name, (gp cur j).cap, (gp cur j).least, (gp cur j).most + (gu y.uses k).amount, insTo (gp cur j).may y.stuffs n⟩).length = x.spots.length := by rw [List.length_set]; exact hul'
           have hjs : j < (cur.set j ⟨(gp cur j).name, (gp cur j).cap, (gp cur j).least, (gp cur j).most + (gu y.uses k).amount, insTo (gp cur j).may y.stuffs n⟩).length := by omega
           have hgj : gp (cur.set j ⟨(gp cur j).name, (gp cur j).cap, (gp cur j).least, (gp cur j).most + (gu y.uses k).amount, insTo (gp cur j).may y.stuffs n⟩) j = ⟨(gp cur j).name, (gp cur j).cap, (gp cur j).least, (gp cur j).most + (gu y.uses k).amount, insTo (gp cur j).may y.stuffs n⟩ := by rw [gp_set hjc, if_pos rfl]
           obtain ⟨cm, cmf, -⟩ := own.spots.row.cellAt hjs (by omega : 4 < 5)
           have cm : Y.cell? ⟨b1, j * 5 + 4, none⟩ = some (.slice (A' j) (insTo (gp cur j).may y.stuffs n).length (C' j)) := by
            have h : Y.cell? ⟨b1, j * 5 + 4, none⟩ = some (.slice (A' j) (gp (cur.set j ⟨(gp cur j).name, (gp cur j).cap, (gp cur j).least, (gp cur j).most + (gu y.uses k).amount, insTo (gp cur j).may y.stuffs n⟩) j).may.length (C' j)) := cm
            rw [hgj] at h
            exact h
           have om := own.spots.may j hjs
           have oc := own.spots.cap j hjs
           rw [hgj] at om oc
           dsimp only at om oc
           have q1 := iY.cell 1 rfl
           have hbY0 : b1 < Y.heap.size := by have := bY.size; omega
           have hS : ∀ W, Below Y.heap.size Y W → (W.cell? ⟨w.heap.size, 1, none⟩ = some (.slice (some ⟨b1, 0, none⟩) x.spots.length k1) ∧ W.cell? ⟨b1, j * 5 + 4, none⟩ = some (.slice (A' j) (insTo (gp cur j).may y.stuffs n).length (C' j)) ∧ W.cell? ⟨w.heap.size + 1, 2, none⟩ = some (.slice (some ⟨bs, os, none⟩) y.stuffs.length c2) ∧ W.cell? ⟨bs, os + n, none⟩ = some (.string (gs y.stuffs n))) := fun W h => ⟨cell_later h q1, cell_later h cm, cell_later h q2, cell_later h hcs⟩
           have hS0 := hS Y.drew (Below.drew (Below.refl _ _))
           have hlen := insTo_length (gp cur j).may y.stuffs n
           have hIns : ∀ W, Below Y.heap.size Y W → Calls Tryz.prog 166 #[.slice (A' j) (insTo (gp cur j).may y.stuffs n).length (C' j), .string (gs y.stuffs n)] W fun e w' => (∃ a' c', e = .returned (.slice a' (insS (insTo (gp cur j).may y.stuffs n) (gs y.stuffs n)).length c') ∧ OwnL w' 9 1 a' (insS (insTo (gp cur j).may y.stuffs n) (gs y.stuffs n)).length (strF (insS (insTo (gp cur j).may y.stuffs n) (gs y.stuffs n))) ∧ (insS (insTo (gp cur j).may y.stuffs n) (gs y.stuffs n)).length ≤ c' ∧ ∀ q, InSlot a' (insS (insTo (gp cur j).may y.stuffs n) (gs y.stuffs n)).length q → InSlot (A' j) (insTo (gp cur j).may y.stuffs n).length q ∨ W.heap.size ≤ q) ∧ Below W.heap.size W w' := fun W h => l3Insert_own (A' j) (C' j) (insTo (gp cur j).may y.stuffs n) (gs y.stuffs n) W (om.later h) (by omega) oc
           rw [← insTo_succ hnl] at hIns
           have OWN : Hid _ := own
           have LO : Hid _ := lo
           have HIT : Hid (insTo_succ (l := (gp cur j).may) hnl = insTo_succ hnl) := rfl
           clear own lo om oc HIT
           go_wp2_with fail
           refine wp_region_E (fun W => (W.cell? ⟨w.heap.size, 1, none⟩ = some (.slice (some ⟨b1, 0, none⟩) x.spots.length k1) ∧ W.cell? ⟨b1, j * 5 + 4, none⟩ = some (.slice (A' j) (insTo (gp cur j).may y.stuffs n).length (C' j)) ∧ W.cell? ⟨w.heap.size + 1, 2, none⟩ = some (.slice (some ⟨bs, os, none⟩) y.stuffs.length c2) ∧ W.cell? ⟨bs, os + n, none⟩ = some (.string (gs y.stuffs n)))) 17 (by kernel_rfl) ?_
           refine tk 0 ?var0 rfl (by kernel_rfl) (fun _ _ _ h => h) (by rfl) hS0 ?yar0 ?rar0
           case yar0 => intro w' h; (try dsimp only at h); go_simp; (try with_reducible rfl)
           try simp only [Act.put, sA, sB, sC]
           refine tk 1 ?var1 rfl (by kernel_rfl) (fun _ _ _ h => h) (by rfl) hS0 ?yar1 ?rar1
           case yar1 => intro w' h; (try dsimp only at h); go_simp; (try with_reducible rfl)
           try simp only [Act.put, sA, sB, sC]
           refine tk 2 ?var2 rfl (by kernel_rfl) (fun _ _ _ h => h) (by rfl) hS0 ?yar2 ?rar2
           case yar2 => intro w' h; (try dsimp only at h); go_simp; (try with_reducible rfl)
           try simp only [Act.put, sA, sB, sC]
           refine tk 3 ?var3 rfl (by kernel_rfl) (fun _ _ _ h => h) (by rfl) hS0 ?yar3 ?rar3
           case yar3 => intro w' h; (try dsimp only at h); go_simp; (try with_reducible rfl)
           try simp only [Act.put, sA, sB, sC]
           refine tk 4 ?var4 rfl (by kernel_rfl) (fun _ _ _ h => h) (by rfl) hS0 ?yar4 ?rar4
           case yar4 => intro w' h; (try dsimp only at h); go_simp; (try with_reducible rfl)
           try simp only [Act.put, sA, sB, sC]
           refine tk 5 ?var5 rfl (by kernel_rfl) (fun _ _ _ h => h) (by rfl) hS0 ?yar5 ?rar5
           case yar5 => intro w' h; (try dsimp only at h); go_simp; (try with_reducible rfl)
           try simp only [Act.put, sA, sB, sC]
           refine tk 6 ?var6 rfl (by kernel_rfl) (fun _ _ _ h => h) (by rfl) hS0 ?yar6 ?rar6
           case yar6 => intro w' h; (try dsimp only at h); go_simp; (try with_reducible rfl)
           try simp only [Act.put, sA, sB, sC]
           refine tk 7 ?var7 rfl (by kernel_rfl) (fun _ _ _ h => h) (by rfl) hS0 ?yar7 ?rar7
           case yar7 => intro w' h; (try dsimp only at h); go_simp; (try with_reducible rfl)
           try simp only [Act.put, sA, sB, sC]
           refine tk 8 ?var8 rfl (by kernel_rfl) (fun _ _ _ h => h) (by rfl) hS0 ?yar8 ?rar8
           case yar8 => intro w' h; (try dsimp only at h); go_simp; (try with_reducible rfl)
           try simp only [Act.put, sA, sB, sC]
           refine tk 9 ?var9 rfl (by kernel_rfl) (fun _ _ _ h => h) (by rfl) hS0 ?yar9 ?rar9
           case yar9 => intro w' h; (try dsimp only at h); go_simp; (try with_reducible rfl)
           try simp only [Act.put, sA, sB, sC]
           refine tk 10 ?var10 rfl (by kernel_rfl) (fun _ _ _ h => h) (by rfl) hS0 ?yar10 ?rar10
           case yar10 => intro w' h; (try dsimp only at h); go_simp; (try with_reducible rfl)
           try simp only [Act.put, sA, sB, sC]
           refine tk 11 ?var11 rfl (by kernel_rfl) (fun _ _ _ h => h) (by rfl) hS0 ?yar11 ?rar11
           case yar11 => intro w' h; (try dsimp only at h); go_simp; (try with_reducible rfl)
           try simp only [Act.put, sA, sB, sC]
           refine tk 12 ?var12 rfl (by kernel_rfl) (fun _ _ _ h => h) (by rfl) hS0 ?yar12 ?rar12
           case yar12 => intro w' h; (try dsimp only at h); go_simp; (try with_reducible rfl)
           try simp only [Act.put, sA, sB, sC]
           refine tk 13 ?var13 rfl (by kernel_rfl) (fun _ _ _ h => h) (by rfl) hS0 ?yar13 ?rar13
           case yar13 => intro w' h; (try dsimp only at h); go_simp; (try with_reducible rfl)
           try simp only [Act.put, sA, sB, sC]
           refine wpAnyE_oneC (i := 14) rfl (by kernel_rfl) ?_
           intro K hK
           rw [if_pos (by rfl)]
           go_wp2_with (go_at_call 166; refine (hIns _ (Below.drew (Below.refl _ _))).mono ?_; rintro e Y1 ⟨⟨a', c', rfl, oN, hcN, hat⟩, hbN⟩)
           have hb1N : Below Y.heap.size Y Y1 := (Below.drew (Below.refl _ _)).trans hbN
           refine hK.out _ _ (fun _ => hS Y1 hb1N) ?_
           clear hK K
           have hS1 := hS Y1 hb1N
           obtain ⟨cm1, cmf1, -⟩ := ((OWN.out.later hb1N).spots.row).cellAt hjs (by omega : 4 < 5)
           try simp only [Act.put, sA, sB, sC]
           refine wpAnyE_oneC (i := 15) rfl (by kernel_rfl) ?_
           intro K hK
           rw [if_pos (by rfl)]
           go_wp2_with fail
           refine hK.out _ _ (fun _ => hS1) ?_
           clear hK K
           try simp only [Act.put, sA, sB, sC]
           refine wpAnyE_oneC (i := 16) rfl (by kernel_rfl) ?_
           intro K hK
           rw [if_pos (by rfl)]
           go_wp2_with fail
           refine hK.out _ _ (fun _ => hS1) ?_
           clear hK K
           try simp only [Act.put, sA, sB, sC]
           refine wpAnyE_oneC (i := 17) rfl (by kernel_rfl) ?_
           intro K hK
           rw [if_pos (by rfl)]
           go_wp2_with fail
           refine hK.out _ _ (fun h => absurd rfl h) ?_
           clear hK K
           try simp only [Act.put, sA, sB, sC]
           refine wpAnyE_done (by kernel_rfl) ?_ _
           have sp5 := (OWN.out.later hb1N).spots.setMay hjs (l := insTo (gp cur j).may y.stuffs (n + 1)) (a' := a') (c' := c') oN hcN (fun q hq e => ?n1) (fun i hi hij q hq => ?n2)
           case n1 =>
            rcases hat q hq with h | h
            · exact OWN.out.spots.apart j hjs q (by rw [hgj]; exact h) (by rw [e]; exact ⟨by dsimp only; omega, 0, rfl⟩)
            · have h' : Y.heap.size ≤ q := h
              omega
           case n2 =>
            rcases hat q hq with h | h
            · exact OWN.out.spots.each j i hjs hi (fun e => hij e.symm) q (by rw [hgj]; exact h)
            · intro h2
              have h3 := (OWN.out.spots.may i hi).lt h2
              have h' : Y.heap.size ≤ q := h
              omega
           have own5 := (OWN.out.later hb1N).withSpots (n := x.seen) (by dsimp only; omega) sp5 (Only.cell Y1 ⟨b1, j * 5 + 4, none⟩ _) (N := Y.heap.size) (fun q hq => OWN.out.lt hq) (fun q hq => ?n3)
           case n3 =>
            rcases inSp_set hjs hq with h | h
            · exact Or.inl h
            · rcases hat q h with h | h
              · exact Or.inl (Or.inr ⟨j, hjs, by dsimp only; rw [hgj]; exact h⟩)
              · exact Or.inr h
           have hss : (cur.set j ⟨(gp cur j).name, (gp cur j).cap, (gp cur j).least, (gp cur j).most + (gu y.uses k).amount, insTo (gp cur j).may y.stuffs n⟩).set j ⟨(gp (cur.set j ⟨(gp cur j).name, (gp cur j).cap, (gp cur j).least, (gp cur j).most + (gu y.uses k).amount, insTo (gp cur j).may y.stuffs n⟩) j).name, (gp (cur.set j ⟨(gp cur j).name, (gp cur j).cap, (gp cur j).least, (gp cur j).most + (gu y.uses k).amount, insTo (gp cur j).may y.stuffs n⟩) j).cap, (gp (cur.set j ⟨(gp cur j).name, (gp cur j).cap, (gp cur j).least, (gp cur j).most + (gu y.uses k).amount, insTo (gp cur j).may y.stuffs n⟩) j).least, (gp (cur.set j ⟨(gp cur j).name, (gp cur j).cap, (gp cur j).least, (gp cur j).most + (gu y.uses k).amount, insTo (gp cur j).may y.stuffs n⟩) j).most, insTo (gp cur j).may y.stuffs (n + 1)⟩ = cur.set j ⟨(gp cur j).name, (gp cur j).cap, (gp cur j).least, (gp cur j).most + (gu y.uses k).amount, insTo (gp cur j).may y.stuffs (n + 1)⟩ := by rw [hgj, List.set_set]
           have lo5 : ∀ q, InBk ⟨x.foes, cur.set j ⟨(gp cur j).name, (gp cur j).cap, (gp cur j).least, (gp cur j).most + (gu y.uses k).amount, insTo (gp cur j).may y.stuffs (n + 1)⟩, x.valves, x.parts, x.seen⟩ f0 (some ⟨b1, 0, none⟩) f2 f3 (fun i => if i = j then a' else A' i) A2 q → N0 ≤ q ∧ q ≠ Bx ∧ (q < w.heap.size ∨ W0.heap.size ≤ q) := by
            rw [← hss]
            rintro q (hq | hq | hq)
            · exact LO.out q (Or.inl hq)
            · rcases inSp_set hjs hq with h | h
              · exact LO.out q (Or.inr (Or.inl h))
              · rcases hat q h with h | h
                · exact LO.out q (Or.inr (Or.inl (Or.inr ⟨j, hjs, by dsimp only; rw [hgj]; exact h⟩)))
                · have h' : Y.heap.size ≤ q := h
                  have := bY.size
                  omega
            · exact LO.out q (Or.inr (Or.inr hq))
           dsimp only at own5
           rw [hss] at own5
           have cap5 := (cap.later hb1N).only (Only.cell Y1 ⟨b1, j * 5 + 4, none⟩ (.slice a' (insTo (gp cur j).may y.stuffs (n + 1)).length c')) (fun q hq e => OWN.out.d13 b1 (Or.inl ⟨by dsimp only; omega, 0, rfl⟩) (by have e' : q = b1 := e; rw [← e']; exact Or.inl (CAPN.out q hq)))
           have iY5 := (iY.later hb1N).other (a := ⟨b1, j * 5 + 4, none⟩) (fun h => hneq h.symm) (.slice a' (insTo (gp cur j).may y.stuffs (n + 1)).length c')
           have nY5 := (nY.later hb1N).other (a := ⟨b1, j * 5 + 4, none⟩) (fun h => hneq1 h.symm) (.slice a' (insTo (gp cur j).may y.stuffs (n + 1)).length c')
           have zY5 := (zY.later hb1N).other (a := ⟨b1, j * 5 + 4, none⟩) (fun h => hneq2 h.symm) (.slice a' (insTo (gp cur j).may y.stuffs (n + 1)).length c')
           have xY5 := (xY.later hb1N).other (a := ⟨b1, j * 5 + 4, none⟩) (fun h => hneq4 h.symm) (.slice a' (insTo (gp cur j).may y.stuffs (n + 1)).length c')
           have uY5 := (uY.later hb1N).other (a := ⟨b1, j * 5 + 4, none⟩) (fun h => hneq3 h.symm) (.slice a' (insTo (gp cur j).may y.stuffs (n + 1)).length c')
           have bY5 := (bY.trans (hb1N.mono (Nat.le_trans hN bY.size))).setCell (p := ⟨b1, j * 5 + 4, none⟩) hb1.1 (.slice a' (insTo (gp cur j).may y.stuffs (n + 1)).length c')
           have sY5 : W0.heap.size ≤ (Y1.setCell ⟨b1, j * 5 + 4, none⟩ (.slice a' (insTo (gp cur j).may y.stuffs (n + 1)).length c')).heap.size := by rw [Go.Deep.nblk_setCell]; have := hb1N.size; omega
           obtain ⟨Y5, hY5⟩ : ∃ W, W = Y1.setCell ⟨b1, j * 5 + 4, none⟩ (.slice a' (insTo (gp cur j).may y.stuffs (n + 1)).length c') := ⟨_, rfl⟩
           rw [← hY5] at own5 cap5 iY5 nY5 zY5 xY5 uY5 bY5 sY5 ⊢
           have OWN5 : Hid _ := own5
           have LO5 : Hid _ := lo5
           clear hY5 own5 lo5 sp5 hS hS0 hS1 hIns cm1 cmf1 cm cmf oN hat hbN hb1N OWN LO q1 q2 p1 hcs
           go_wp2
           go_roundw
           case rel => exact ⟨n + 1, _, _, _, rfl, by omega, by go_num, bY5, sY5, iY5, nY5, zY5, xY5, uY5, OWN5.out, cap5, LO5.out⟩
           case measure => simp [intOf]; omega
         · have hne : n = y.stuffs.length := by omega
           have hnl2 : ¬ (n : Int) < y.stuffs.length := by omega
           have OWN : Hid _ := own
           have LO : Hid _ := lo
           clear own lo
           go_wp2
           go_roundw
           case rel => exact ⟨k + 1, A', C', _, rfl, by omega, by go_num, bY, sY, iY, nY, zY, xY, by rw [HUP.out, HG.out, ← hne]; exact OWN.out, cap, by rw [HUP.out, HG.out, ← hne]; exact LO.out⟩
           case measure => simp [intOf]; omega
      · have e2b : ((gu y.uses k).role == 2) = false := by simp [e2]
        have HG : Hid (grantS y.stuffs (gp cur j) (gu y.uses k) = ⟨(gp cur j).name, (gp cur j).cap, (gp cur j).least, (gp cur j).most, insTo (gp cur j).may y.stuffs y.stuffs.length⟩) := (by unfold grantS; simp [e1, e2] : _ = _)
        have own3 : OwnBook X2 ⟨x.foes, cur.set j ⟨(gp cur j).name, (gp cur j).cap, (gp cur j).least, (gp cur j).most, (gp cur j).may⟩, x.valves, x.parts, x.seen⟩ f0 (some ⟨b1, 0, none⟩) f2 f3 A C A2 C2 := by rw [set_self' hjc]; exact own2
        have LO4 : Hid (∀ q, InBk ⟨x.foes, cur.set j ⟨(gp cur j).name, (gp cur j).cap, (gp cur j).least, (gp cur j).most, (gp cur j).may⟩, x.valves, x.parts, x.seen⟩ f0 (some ⟨b1, 0, none⟩) f2 f3 A A2 q → N0 ≤ q ∧ q ≠ Bx ∧ (q < w.heap.size ∨ W0.heap.size ≤ q)) := (by rw [set_self' hjc]; exact LOX.out : ∀ q, InBk ⟨x.foes, cur.set j ⟨(gp cur j).name, (gp cur j).cap, (gp cur j).least, (gp cur j).most, (gp cur j).may⟩, x.valves, x.parts, x.seen⟩ f0 (some ⟨b1, 0, none⟩) f2 f3 A A2 q → N0 ≤ q ∧ q ≠ Bx ∧ (q < w.heap.size ∨ W0.heap.size ≤ q))
        have iX4 := iX2
        have nX4 := nX2
        have zX4 := zX2
        have xX4 := xX2
        have u4 := u2
        have bX4 := bX2
        have cap4 := cap2
        have sX4 : W0.heap.size ≤ X2.heap.size := by omega
        clear e1 e2 own2 iX2 nX2 zX2 xX2 u2 bX2 cap2 LOX q1 p1 p2
        have OWN : Hid _ := own3
        clear own3
        have q2 := nX4.cell 2 rfl
        have p1 := u4.cell 1 rfl
        go_wp2_with fail
        go_loopw [8] (fun i wr => ∃ (n : Nat) (A' : Nat → Option Addr) (C' : Nat → Nat) (Y : World), Y = wr ∧ n ≤ y.stuffs.length ∧ i = .int .i64 n ∧ Below N0 w Y ∧ W0.heap.size ≤ Y.heap.size ∧ Row Y w.heap.size 28 [.slice f0 x.foes.length k0, .slice (some ⟨b1, 0, none⟩) x.spots.length k1, .slice f2 x.valves.length k2, .slice f3 x.parts.length k3, .int .i64 x.seen] ∧ Row Y (w.heap.size + 1) 38 [.int .i64 y.number, .int .i64 y.kind, .slice a2 y.stuffs.length c2, .slice (some ⟨bu, ou, none⟩) y.uses.length c3, .slice a4 y.opens.length c4, .slice a5 y.shuts.length c5] ∧ Row Y (w.heap.size + 1 + 1) 28 [.slice none 0 0, .slice none 0 0, .slice none 0 0, .slice none 0 0, .int .i64 0] ∧ Row Y Bx tx lx ∧ Row Y X.heap.size 101 [.string (gu y.uses k).name, .int .i64 (gu y.uses k).role, .int .i64 (gu y.uses k).amount] ∧ OwnBook Y ⟨x.foes, cur.set j ⟨(gp cur j).name, (gp cur j).cap, (gp cur j).least, (gp cur j).most, insTo (gp cur j).may y.stuffs n⟩, x.valves, x.parts, x.seen⟩ f0 (some ⟨b1, 0, none⟩) f2 f3 A' C' A2 C2 ∧ CapOf Y 61 7 f3 x.parts.length k3 ∧ (∀ q, InBk ⟨x.foes, cur.set j ⟨(gp cur j).name, (gp cur j).cap, (gp cur j).least, (gp cur j).most, insTo (gp cur j).may y.stuffs n⟩, x.valves, x.parts, x.seen⟩ f0 (some ⟨b1, 0, none⟩) f2 f3 A' A2 q → N0 ≤ q ∧ q ≠ Bx ∧ (q < w.heap.size ∨ W0.heap.size ≤ q))) (fun i _ => y.stuffs.length - (intOf i).toNat)
        case atStart => exact ⟨0, A, C, _, rfl, Nat.zero_le _, rfl, bX4, sX4, iX4, nX4, zX4, xX4, u4, by rw [insTo_zero]; exact OWN.out, cap4, by rw [insTo_zero]; exact LO4.out⟩
        case round =>
         clear bX4 sX4 iX4 nX4 zX4 xX4 u4 OWN cap4 LO4 q2 p1
         obtain ⟨n, A', C', Y, rfl, hn, rfl, bY, sY, iY, nY, zY, xY, uY, own, cap, lo⟩ := hrel
         have q2 := nY.cell 2 rfl
         have p1 := uY.cell 1 rfl
         by_cases hnl : n < y.stuffs.length
         · obtain ⟨bs, os, hs, hbs, hcs⟩ := ((hy Y bY).stuffs).at hnl
           subst hs
           have hnl2 : (n : Int) < y.stuffs.length := by omega
           have hn0 : (0 : Int) ≤ n := by omega
           have hcl : (cur.set j ⟨(gp cur j).name, (gp cur j).cap, (gp cur j).least, (gp cur j).most, insTo (gp cur j).may y.stuffs n⟩).length = x.spots.length := by rw [List.length_set]; exact hul'
           have hjs : j < (cur.set j ⟨(gp cur j).name, (gp cur j).cap, (gp cur j).least, (gp cur j).most, insTo (gp cur j).may y.stuffs n⟩).length := by omega
           have hgj : gp (cur.set j ⟨(gp cur j).name, (gp cur j).cap, (gp cur j).least, (gp cur j).most, insTo (gp cur j).may y.stuffs n⟩) j = ⟨(gp cur j).name, (gp cur j).cap, (gp cur j).least, (gp cur j).most, insTo (gp cur j).may y.stuffs n⟩ := by rw [gp_set hjc, if_pos rfl]
           obtain ⟨cm, cmf, -⟩ := own.spots.row.cellAt hjs (by omega : 4 < 5)
           have cm : Y.cell? ⟨b1, j * 5 + 4, none⟩ = some (.slice (A' j) (insTo (gp cur j).may y.stuffs n).length (C' j)) := by
            have h : Y.cell? ⟨b1, j * 5 + 4, none⟩ = some (.slice (A' j) (gp (cur.set j ⟨(gp cur j).name, (gp cur j).cap, (gp cur j).least, (gp cur j).most, insTo (gp cur j).may y.stuffs n⟩) j).may.length (C' j)) := cm
            rw [hgj] at h
            exact h
           have om := own.spots.may j hjs
           have oc := own.spots.cap j hjs
           rw [hgj] at om oc
           dsimp only at om oc
           have q1 := iY.cell 1 rfl
           have hbY0 : b1 < Y.heap.size := by have := bY.size; omega
           have hS : ∀ W, Below Y.heap.size Y W → (W.cell? ⟨w.heap.size, 1, none⟩ = some (.slice (some ⟨b1, 0, none⟩) x.spots.length k1) ∧ W.cell? ⟨b1, j * 5 + 4, none⟩ = some (.slice (A' j) (insTo (gp cur j).may y.stuffs n).length (C' j)) ∧ W.cell? ⟨w.heap.size + 1, 2, none⟩ = some (.slice (some ⟨bs, os, none⟩) y.stuffs.length c2) ∧ W.cell? ⟨bs, os + n, none⟩ = some (.string (gs y.stuffs n))) := fun W h => ⟨cell_later h q1, cell_later h cm, cell_later h q2, cell_later h hcs⟩
           have hS0 := hS Y.drew (Below.drew (Below.refl _ _))
           have hlen := insTo_length (gp cur j).may y.stuffs n
           have hIns : ∀ W, Below Y.heap.size Y W → Calls Tryz.prog 166 #[.slice (A' j) (insTo (gp cur j).may y.stuffs n).length (C' j), .string (gs y.stuffs n)] W fun e w' => (∃ a' c', e = .returned (.slice a' (insS (insTo (gp cur j).may y.stuffs n) (gs y.stuffs n)).length c') ∧ OwnL w' 9 1 a' (insS (insTo (gp cur j).may y.stuffs n) (gs y.stuffs n)).length (strF (insS (insTo (gp cur j).may y.stuffs n) (gs y.stuffs n))) ∧ (insS (insTo (gp cur j).may y.stuffs n) (gs y.stuffs n)).length ≤ c' ∧ ∀ q, InSlot a' (insS (insTo (gp cur j).may y.stuffs n) (gs y.stuffs n)).length q → InSlot (A' j) (insTo (gp cur j).may y.stuffs n).length q ∨ W.heap.size ≤ q) ∧ Below W.heap.size W w' := fun W h => l3Insert_own (A' j) (C' j) (insTo (gp cur j).may y.stuffs n) (gs y.stuffs n) W (om.later h) (by omega) oc
           rw [← insTo_succ hnl] at hIns
           have OWN : Hid _ := own
           have LO : Hid _ := lo
           have HIT : Hid (insTo_succ (l := (gp cur j).may) hnl = insTo_succ hnl) := rfl
           clear own lo om oc HIT
           go_wp2_with fail
           refine wp_region_E (fun W => (W.cell? ⟨w.heap.size, 1, none⟩ = some (.slice (some ⟨b1, 0, none⟩) x.spots.length k1) ∧ W.cell? ⟨b1, j * 5 + 4, none⟩ = some (.slice (A' j) (insTo (gp cur j).may y.stuffs n).length (C' j)) ∧ W.cell? ⟨w.heap.size + 1, 2, none⟩ = some (.slice (some ⟨bs, os, none⟩) y.stuffs.length c2) ∧ W.cell? ⟨bs, os + n, none⟩ = some (.string (gs y.stuffs n)))) 17 (by kernel_rfl) ?_
           refine tk 0 ?vas0 rfl (by kernel_rfl) (fun _ _ _ h => h) (by rfl) hS0 ?yas0 ?ras0
           case yas0 => intro w' h; (try dsimp only at h); go_simp; (try with_reducible rfl)
           try simp only [Act.put, sA, sB, sC]
           refine tk 1 ?vas1 rfl (by kernel_rfl) (fun _ _ _ h => h) (by rfl) hS0 ?yas1 ?ras1
           case yas1 => intro w' h; (try dsimp only at h); go_simp; (try with_reducible rfl)
           try simp only [Act.put, sA, sB, sC]
           refine tk 2 ?vas2 rfl (by kernel_rfl) (fun _ _ _ h => h) (by rfl) hS0 ?yas2 ?ras2
           case yas2 => intro w' h; (try dsimp only at h); go_simp; (try with_reducible rfl)
           try simp only [Act.put, sA, sB, sC]
           refine tk 3 ?vas3 rfl (by kernel_rfl) (fun _ _ _ h => h) (by rfl) hS0 ?yas3 ?ras3
           case yas3 => intro w' h; (try dsimp only at h); go_simp; (try with_reducible rfl)
           try simp only [Act.put, sA, sB, sC]
           refine tk 4 ?vas4 rfl (by kernel_rfl) (fun _ _ _ h => h) (by rfl) hS0 ?yas4 ?ras4
           case yas4 => intro w' h; (try dsimp only at h); go_simp; (try with_reducible rfl)
           try simp only [Act.put, sA, sB, sC]
           refine tk 5 ?vas5 rfl (by kernel_rfl) (fun _ _ _ h => h) (by rfl) hS0 ?yas5 ?ras5
           case yas5 => intro w' h; (try dsimp only at h); go_simp; (try with_reducible rfl)
           try simp only [Act.put, sA, sB, sC]
           refine tk 6 ?vas6 rfl (by kernel_rfl) (fun _ _ _ h => h) (by rfl) hS0 ?yas6 ?ras6
           case yas6 => intro w' h; (try dsimp only at h); go_simp; (try with_reducible rfl)
           try simp only [Act.put, sA, sB, sC]
           refine tk 7 ?vas7 rfl (by kernel_rfl) (fun _ _ _ h => h) (by rfl) hS0 ?yas7 ?ras7
           case yas7 => intro w' h; (try dsimp only at h); go_simp; (try with_reducible rfl)
           try simp only [Act.put, sA, sB, sC]
           refine tk 8 ?vas8 rfl (by kernel_rfl) (fun _ _ _ h => h) (by rfl) hS0 ?yas8 ?ras8
           case yas8 => intro w' h; (try dsimp only at h); go_simp; (try with_reducible rfl)
           try simp only [Act.put, sA, sB, sC]
           refine tk 9 ?vas9 rfl (by kernel_rfl) (fun _ _ _ h => h) (by rfl) hS0 ?yas9 ?ras9
           case yas9 => intro w' h; (try dsimp only at h); go_simp; (try with_reducible rfl)
           try simp only [Act.put, sA, sB, sC]
           refine tk 10 ?vas10 rfl (by kernel_rfl) (fun _ _ _ h => h) (by rfl) hS0 ?yas10 ?ras10
           case yas10 => intro w' h; (try dsimp only at h); go_simp; (try with_reducible rfl)
           try simp only [Act.put, sA, sB, sC]
           refine tk 11 ?vas11 rfl (by kernel_rfl) (fun _ _ _ h => h) (by rfl) hS0 ?yas11 ?ras11
           case yas11 => intro w' h; (try dsimp only at h); go_simp; (try with_reducible rfl)
           try simp only [Act.put, sA, sB, sC]
           refine tk 12 ?vas12 rfl (by kernel_rfl) (fun _ _ _ h => h) (by rfl) hS0 ?yas12 ?ras12
           case yas12 => intro w' h; (try dsimp only at h); go_simp; (try with_reducible rfl)
           try simp only [Act.put, sA, sB, sC]
           refine tk 13 ?vas13 rfl (by kernel_rfl) (fun _ _ _ h => h) (by rfl) hS0 ?yas13 ?ras13
           case yas13 => intro w' h; (try dsimp only at h); go_simp; (try with_reducible rfl)
           try simp only [Act.put, sA, sB, sC]
           refine wpAnyE_oneC (i := 14) rfl (by kernel_rfl) ?_
           intro K hK
           rw [if_pos (by rfl)]
           go_wp2_with (go_at_call 166; refine (hIns _ (Below.drew (Below.refl _ _))).mono ?_; rintro e Y1 ⟨⟨a', c', rfl, oN, hcN, hat⟩, hbN⟩)
           have hb1N : Below Y.heap.size Y Y1 := (Below.drew (Below.refl _ _)).trans hbN
           refine hK.out _ _ (fun _ => hS Y1 hb1N) ?_
           clear hK K
           have hS1 := hS Y1 hb1N
           obtain ⟨cm1, cmf1, -⟩ := ((OWN.out.later hb1N).spots.row).cellAt hjs (by omega : 4 < 5)
           try simp only [Act.put, sA, sB, sC]
           refine wpAnyE_oneC (i := 15) rfl (by kernel_rfl) ?_
           intro K hK
           rw [if_pos (by rfl)]
           go_wp2_with fail
           refine hK.out _ _ (fun _ => hS1) ?_
           clear hK K
           try simp only [Act.put, sA, sB, sC]
           refine wpAnyE_oneC (i := 16) rfl (by kernel_rfl) ?_
           intro K hK
           rw [if_pos (by rfl)]
           go_wp2_with fail
           refine hK.out _ _ (fun _ => hS1) ?_
           clear hK K
           try simp only [Act.put, sA, sB, sC]
           refine wpAnyE_oneC (i := 17) rfl (by kernel_rfl) ?_
           intro K hK
           rw [if_pos (by rfl)]
           go_wp2_with fail
           refine hK.out _ _ (fun h => absurd rfl h) ?_
           clear hK K
           try simp only [Act.put, sA, sB, sC]
           refine wpAnyE_done (by kernel_rfl) ?_ _
           have sp5 := (OWN.out.later hb1N).spots.setMay hjs (l := insTo (gp cur j).may y.stuffs (n + 1)) (a' := a') (c' := c') oN hcN (fun q hq e => ?n1) (fun i hi hij q hq => ?n2)
           case n1 =>
            rcases hat q hq with h | h
            · exact OWN.out.spots.apart j hjs q (by rw [hgj]; exact h) (by rw [e]; exact ⟨by dsimp only; omega, 0, rfl⟩)
            · have h' : Y.heap.size ≤ q := h
              omega
           case n2 =>
            rcases hat q hq with h | h
            · exact OWN.out.spots.each j i hjs hi (fun e => hij e.symm) q (by rw [hgj]; exact h)
            · intro h2
              have h3 := (OWN.out.spots.may i hi).lt h2
              have h' : Y.heap.size ≤ q := h
              omega
           have own5 := (OWN.out.later hb1N).withSpots (n := x.seen) (by dsimp only; omega) sp5 (Only.cell Y1 ⟨b1, j * 5 + 4, none⟩ _) (N := Y.heap.size) (fun q hq => OWN.out.lt hq) (fun q hq => ?n3)
           case n3 =>
            rcases inSp_set hjs hq with h | h
            · exact Or.inl h
            · rcases hat q h with h | h
              · exact Or.inl (Or.inr ⟨j, hjs, by dsimp only; rw [hgj]; exact h⟩)
              · exact Or.inr h
           have hss : (cur.set j ⟨(gp cur j).name, (gp cur j).cap, (gp cur j).least, (gp cur j).most, insTo (gp cur j).may y.stuffs n⟩).set j ⟨(gp (cur.set j ⟨(gp cur j).name, (gp cur j).cap, (gp cur j).least, (gp cur j).most, insTo (gp cur j).may y.stuffs n⟩) j).name, (gp (cur.set j ⟨(gp cur j).name, (gp cur j).cap, (gp cur j).least, (gp cur j).most, insTo (gp cur j).may y.stuffs n⟩) j).cap, (gp (cur.set j ⟨(gp cur j).name, (gp cur j).cap, (gp cur j).least, (gp cur j).most, insTo (gp cur j).may y.stuffs n⟩) j).least, (gp (cur.set j ⟨(gp cur j).name, (gp cur j).cap, (gp cur j).least, (gp cur j).most, insTo (gp cur j).may y.stuffs n⟩) j).most, insTo (gp cur j).may y.stuffs (n + 1)⟩ = cur.set j ⟨(gp cur j).name, (gp cur j).cap, (gp cur j).least, (gp cur j).most, insTo (gp cur j).may y.stuffs (n + 1)⟩ := by rw [hgj, List.set_set]
           have lo5 : ∀ q, InBk ⟨x.foes, cur.set j ⟨(gp cur j).name, (gp cur j).cap, (gp cur j).least, (gp cur j).most, insTo (gp cur j).may y.stuffs (n + 1)⟩, x.valves, x.parts, x.seen⟩ f0 (some ⟨b1, 0, none⟩) f2 f3 (fun i => if i = j then a' else A' i) A2 q → N0 ≤ q ∧ q ≠ Bx ∧ (q < w.heap.size ∨ W0.heap.size ≤ q) := by
            rw [← hss]
            rintro q (hq | hq | hq)
            · exact LO.out q (Or.inl hq)
            · rcases inSp_set hjs hq with h | h
              · exact LO.out q (Or.inr (Or.inl h))
              · rcases hat q h with h | h
                · exact LO.out q (Or.inr (Or.inl (Or.inr ⟨j, hjs, by dsimp only; rw [hgj]; exact h⟩)))
                · have h' : Y.heap.size ≤ q := h
                  have := bY.size
                  omega
            · exact LO.out q (Or.inr (Or.inr hq))
           dsimp only at own5
           rw [hss] at own5
           have cap5 := (cap.later hb1N).only (Only.cell Y1 ⟨b1, j * 5 + 4, none⟩ (.slice a' (insTo (gp cur j).may y.stuffs (n + 1)).length c')) (fun q hq e => OWN.out.d13 b1 (Or.inl ⟨by dsimp only; omega, 0, rfl⟩) (by have e' : q = b1 := e; rw [← e']; exact Or.inl (CAPN.out q hq)))
           have iY5 := (iY.later hb1N).other (a := ⟨b1, j * 5 + 4, none⟩) (fun h => hneq h.symm) (.slice a' (insTo (gp cur j).may y.stuffs (n + 1)).length c')
           have nY5 := (nY.later hb1N).other (a := ⟨b1, j * 5 + 4, none⟩) (fun h => hneq1 h.symm) (.slice a' (insTo (gp cur j).may y.stuffs (n + 1)).length c')
           have zY5 := (zY.later hb1N).other (a := ⟨b1, j * 5 + 4, none⟩) (fun h => hneq2 h.symm) (.slice a' (insTo (gp cur j).may y.stuffs (n + 1)).length c')
           have xY5 := (xY.later hb1N).other (a := ⟨b1, j * 5 + 4, none⟩) (fun h => hneq4 h.symm) (.slice a' (insTo (gp cur j).may y.stuffs (n + 1)).length c')
           have uY5 := (uY.later hb1N).other (a := ⟨b1, j * 5 + 4, none⟩) (fun h => hneq3 h.symm) (.slice a' (insTo (gp cur j).may y.stuffs (n + 1)).length c')
           have bY5 := (bY.trans (hb1N.mono (Nat.le_trans hN bY.size))).setCell (p := ⟨b1, j * 5 + 4, none⟩) hb1.1 (.slice a' (insTo (gp cur j).may y.stuffs (n + 1)).length c')
           have sY5 : W0.heap.size ≤ (Y1.setCell ⟨b1, j * 5 + 4, none⟩ (.slice a' (insTo (gp cur j).may y.stuffs (n + 1)).length c')).heap.size := by rw [Go.Deep.nblk_setCell]; have := hb1N.size; omega
           obtain ⟨Y5, hY5⟩ : ∃ W, W = Y1.setCell ⟨b1, j * 5 + 4, none⟩ (.slice a' (insTo (gp cur j).may y.stuffs (n + 1)).length c') := ⟨_, rfl⟩
           rw [← hY5] at own5 cap5 iY5 nY5 zY5 xY5 uY5 bY5 sY5 ⊢
           have OWN5 : Hid _ := own5
           have LO5 : Hid _ := lo5
           clear hY5 own5 lo5 sp5 hS hS0 hS1 hIns cm1 cmf1 cm cmf oN hat hbN hb1N OWN LO q1 q2 p1 hcs
           go_wp2
           go_roundw
           case rel => exact ⟨n + 1, _, _, _, rfl, by omega, by go_num, bY5, sY5, iY5, nY5, zY5, xY5, uY5, OWN5.out, cap5, LO5.out⟩
           case measure => simp [intOf]; omega
         · have hne : n = y.stuffs.length := by omega
           have hnl2 : ¬ (n : Int) < y.stuffs.length := by omega
           have OWN : Hid _ := own
           have LO : Hid _ := lo
           clear own lo
           go_wp2
           go_roundw
           case rel => exact ⟨k + 1, A', C', _, rfl, by omega, by go_num, bY, sY, iY, nY, zY, xY, by rw [HUP.out, HG.out, ← hne]; exact OWN.out, cap, by rw [HUP.out, HG.out, ← hne]; exact LO.out⟩
           case measure => simp [intOf]; omega
  · have hke : k = y.uses.length := by omega
    have hlt2 : ¬ (k : Int) < y.uses.length := by omega
    have g3 := iX.cell 3 rfl
    have v0 := nX.cell 0 rfl
    have v1 := nX.cell 1 rfl
    have v2 := nX.cell 2 rfl
    have v4 := nX.cell 4 rfl
    have v5 := nX.cell 5 rfl
    have hR : WantRoom y := by
     unfold wantB at hw
     simp only [Bool.and_eq_true] at hw
     have h4 := namesB_len hw.1.1.1.1.1.1.2
     have h5 := namesB_len hw.1.1.1.1.1.2
     exact ⟨by omega, by omega, by omega, by omega⟩
    have hnB : ¬ InAddr f3 w.heap.size := fun h => by have := HLO.out.2 _ h; omega
    have hnB1 : ¬ InAddr f3 (w.heap.size + 1) := fun h => by have := HLO.out.2 _ h; omega
    have hnB2 : ¬ InAddr f3 (w.heap.size + 1 + 1) := fun h => by have := HLO.out.2 _ h; omega
    have hS : ∀ W, Below X.heap.size X W → (W.cell? ⟨w.heap.size, 3, none⟩ = some (.slice f3 x.parts.length k3) ∧ W.cell? ⟨w.heap.size + 1, 0, none⟩ = some (.int .i64 y.number) ∧ W.cell? ⟨w.heap.size + 1, 1, none⟩ = some (.int .i64 y.kind) ∧ W.cell? ⟨w.heap.size + 1, 2, none⟩ = some (.slice a2 y.stuffs.length c2) ∧ W.cell? ⟨w.heap.size + 1, 3, none⟩ = some (.slice a3 y.uses.length c3) ∧ W.cell? ⟨w.heap.size + 1, 4, none⟩ = some (.slice a4 y.opens.length c4) ∧ W.cell? ⟨w.heap.size + 1, 5, none⟩ = some (.slice a5 y.shuts.length c5)) := fun W h => ⟨cell_later h g3, cell_later h v0, cell_later h v1, cell_later h v2, cell_later h q3, cell_later h v4, cell_later h v5⟩
    have hS0 := hS X.drew (Below.drew (Below.refl _ _))
    have hWant : ∀ W, Below X.heap.size X W → Calls Tryz.prog 79 #[wantW y a2 a3 a4 a5 c2 c3 c4 c5] W fun e w' => (∃ (A : Nat → Option Addr) (C : Nat → Nat), e = .returned (wantW y (A 0) (A 1) (A 2) (A 3) (C 0) (C 1) (C 2) (C 3)) ∧ OwnLists w' ⟨y, false⟩ A ∧ ∀ q, InLists ⟨y, false⟩ A q → W.heap.size ≤ q) ∧ Below W.heap.size W w' := fun W h =>
     l1Want_own ⟨y, false⟩ a2 a3 a4 a5 c2 c3 c4 c5 W (hy W (bX.trans (h.mono (Nat.le_trans hN bX.size)))) hR
    have hOwn : ∀ W, Below X.heap.size X W → OwnL W 61 7 f3 x.parts.length (fun j => partCell (gq x.parts j) (fun f => A2 j (f - 2)) (fun f => C2 j (f - 2))) ∧ CapOf W 61 7 f3 x.parts.length k3 := fun W h => ⟨(own.later h).parts.row, cap.later h⟩
    have OWN : Hid _ := own
    have LO : Hid _ := lo
    have HX : Hid (X.heap.size = X.heap.size) := rfl
    have bXX := Below.refl X.heap.size X
    have hnBx : ¬ InAddr f3 Bx := fun h => hxn (Or.inr (Or.inr (Or.inr (Or.inl (CAPN.out _ h)))))
    have RX : Hid _ := And.intro iX (And.intro nX (And.intro zX xX))
    unfold wantW at hWant
    clear own lo cap iX nX zX xX HX
    go_wp2_with fail
    refine wp_region_E (fun W => W.cell? ⟨w.heap.size, 3, none⟩ = some (.slice f3 x.parts.length k3) ∧ W.cell? ⟨w.heap.size + 1, 0, none⟩ = some (.int .i64 y.number) ∧ W.cell? ⟨w.heap.size + 1, 1, none⟩ = some (.int .i64 y.kind) ∧ W.cell? ⟨w.heap.size + 1, 2, none⟩ = some (.slice a2 y.stuffs.length c2) ∧ W.cell? ⟨w.heap.size + 1, 3, none⟩ = some (.slice a3 y.uses.length c3) ∧ W.cell? ⟨w.heap.size + 1, 4, none⟩ = some (.slice a4 y.opens.length c4) ∧ W.cell? ⟨w.heap.size + 1, 5, none⟩ = some (.slice a5 y.shuts.length c5)) 8 (by kernel_rfl) ?_
    refine tk 0 ?vat0 rfl (by kernel_rfl) (fun _ _ _ h => h) (by rfl) hS0 ?yat0 ?rat0
    case yat0 => intro w' h; (try dsimp only at h); go_simp; (try with_reducible rfl)
    try simp only [Act.put, sA, sB, sC]
    refine tk 1 ?vat1 rfl (by kernel_rfl) (fun _ _ _ h => h) (by rfl) hS0 ?yat1 ?rat1
    case yat1 => intro w' h; (try dsimp only at h); go_simp; (try with_reducible rfl)
    try simp only [Act.put, sA, sB, sC]
    refine tk 2 ?vat2 rfl (by kernel_rfl) (fun _ _ _ h => h) (by rfl) hS0 ?yat2 ?rat2
    case yat2 => intro w' h; (try dsimp only at h); go_simp; (try with_reducible rfl)
    try simp only [Act.put, sA, sB, sC]
    refine wpAnyE_oneC (i := 3) rfl (by kernel_rfl) ?_
    intro K hK
    rw [if_pos (by rfl)]
    go_wp2_with (go_at_call 79; refine (hWant _ (Below.drew (Below.refl _ _))).mono ?_; rintro e w4 ⟨⟨A', C', rfl, o4, lo4⟩, hb4⟩)
    have hbY : Below X.heap.size X w4 := (Below.drew (Below.refl _ _)).trans hb4
    have lo4' : ∀ q, InLists ⟨y, false⟩ A' q → X.heap.size ≤ q := lo4
    refine hK.out _ _ (fun _ => hS w4 hbY) ?_
    clear hK K lo4 hS0
    have hS4 := hS w4 hbY
    have sY := hbY.size
    try simp only [Act.put, sA, sB, sC]
    refine tk 4 ?vat4 rfl (by kernel_rfl) (fun _ _ _ h => h) (by rfl) hS4 ?yat4 ?rat4
    case yat4 => intro w' h; (try dsimp only at h); go_simp; (try with_reducible rfl)
    try simp only [Act.put, sA, sB, sC]
    refine wpAnyE_oneC (i := 5) rfl (by kernel_rfl) ?_
    intro K hK
    rw [if_pos (by rfl)]
    go_wp2_with fail
    refine hK.out _ _ (fun _ => hS _ (by (repeat (first | assumption | exact Below.refl _ _ | refine Below.drew ?_ | refine Below.alloc ?_ (by (try simp); (try omega)) _ | refine Below.setCell ?_ (by (try simp); (try omega)) _)))) ?_
    clear hK K hS4
    try simp only [Act.put, sA, sB, sC]
    refine wpAnyE_oneC (i := 6) rfl (by kernel_rfl) ?_
    intro K hK
    refine step_append_row (by rfl) _ _ (by rfl) slicePart f3 x.parts.length k3 _ (by rfl) (hOwn _ (by (repeat (first | assumption | exact Below.refl _ _ | refine Below.drew ?_ | refine Below.alloc ?_ (by (try simp); (try omega)) _ | refine Below.setCell ?_ (by (try simp); (try omega)) _)))).1 (hOwn _ (by (repeat (first | assumption | exact Below.refl _ _ | refine Below.drew ?_ | refine Below.alloc ?_ (by (try simp); (try omega)) _ | refine Below.setCell ?_ (by (try simp); (try omega)) _)))).2 (some ⟨w4.heap.size, 0, none⟩) 1 1 (fun _ => partCell ⟨y, false⟩ (fun f => A' (f - 2)) (fun f => C' (f - 2))) (by rfl) (rowAt_part w4 ⟨y, false⟩ A' C') (fun _ j => onePart _ _ _ j) (by omega) ?_
    intro a'' c'' w6 apd
    have rB6 := (by refine Row.only (Row.later RX.out.1 ?_) apd.only hnB; (repeat (first | assumption | exact Below.refl _ _ | refine Below.drew ?_ | refine Below.alloc ?_ (by (try simp); (try omega)) _ | refine Below.setCell ?_ (by (try simp); (try omega)) _)) : Row w6 w.heap.size 28 [.slice f0 x.foes.length k0, .slice f1 x.spots.length k1, .slice f2 x.valves.length k2, .slice f3 x.parts.length k3, .int .i64 x.seen])
    have rW6 := (by refine Row.only (Row.later RX.out.2.1 ?_) apd.only hnB1; (repeat (first | assumption | exact Below.refl _ _ | refine Below.drew ?_ | refine Below.alloc ?_ (by (try simp); (try omega)) _ | refine Below.setCell ?_ (by (try simp); (try omega)) _)) : Row w6 (w.heap.size + 1) 38 [.int .i64 y.number, .int .i64 y.kind, .slice a2 y.stuffs.length c2, .slice a3 y.uses.length c3, .slice a4 y.opens.length c4, .slice a5 y.shuts.length c5])
    have rZ6 := (by refine Row.only (Row.later RX.out.2.2.1 ?_) apd.only hnB2; (repeat (first | assumption | exact Below.refl _ _ | refine Below.drew ?_ | refine Below.alloc ?_ (by (try simp); (try omega)) _ | refine Below.setCell ?_ (by (try simp); (try omega)) _)) : Row w6 (w.heap.size + 1 + 1) 28 [.slice none 0 0, .slice none 0 0, .slice none 0 0, .slice none 0 0, .int .i64 0])
    have rX6 := (by refine Row.only (Row.later RX.out.2.2.2 ?_) apd.only hnBx; (repeat (first | assumption | exact Below.refl _ _ | refine Below.drew ?_ | refine Below.alloc ?_ (by (try simp); (try omega)) _ | refine Below.setCell ?_ (by (try simp); (try omega)) _)) : Row w6 Bx tx lx)
    have hS6 : w6.cell? ⟨w.heap.size, 3, none⟩ = some (.slice f3 x.parts.length k3) ∧ w6.cell? ⟨w.heap.size + 1, 0, none⟩ = some (.int .i64 y.number) ∧ w6.cell? ⟨w.heap.size + 1, 1, none⟩ = some (.int .i64 y.kind) ∧ w6.cell? ⟨w.heap.size + 1, 2, none⟩ = some (.slice a2 y.stuffs.length c2) ∧ w6.cell? ⟨w.heap.size + 1, 3, none⟩ = some (.slice a3 y.uses.length c3) ∧ w6.cell? ⟨w.heap.size + 1, 4, none⟩ = some (.slice a4 y.opens.length c4) ∧ w6.cell? ⟨w.heap.size + 1, 5, none⟩ = some (.slice a5 y.shuts.length c5) := ⟨rB6.cell 3 rfl, rW6.cell 0 rfl, rW6.cell 1 rfl, rW6.cell 2 rfl, rW6.cell 3 rfl, rW6.cell 4 rfl, rW6.cell 5 rfl⟩
    have q36 := rB6.cell 3 rfl
    have q36f := rB6.frozen 3
    refine hK.out _ _ (fun _ => hS6) ?_
    clear hK K
    try simp only [Act.put, sA, sB, sC]
    refine wpAnyE_oneC (i := 7) rfl (by kernel_rfl) ?_
    intro K hK
    rw [if_pos (by rfl)]
    go_wp2_with fail
    refine hK.out _ _ (fun _ => hS6) ?_
    clear hK K
    try simp only [Act.put, sA, sB, sC]
    refine wpAnyE_oneC (i := 8) rfl (by kernel_rfl) ?_
    intro K hK
    rw [if_pos (by rfl)]
    go_wp2_with fail
    refine hK.out _ _ (fun h => absurd rfl h) ?_
    clear hK K
    try simp only [Act.put, sA, sB, sC]
    refine wpAnyE_done (by kernel_rfl) ?_ _
    have hw5 : ∃ W5 : World, Below X.heap.size X W5 ∧ Appended 61 7 W5 w6 f3 x.parts.length 1 (fun j => partCell (gq x.parts j) (fun f => A2 j (f - 2)) (fun f => C2 j (f - 2))) (fun _ => partCell ⟨y, false⟩ (fun f => A' (f - 2)) (fun f => C' (f - 2))) a'' c'' ∧ OwnLists W5 ⟨y, false⟩ A' := by
     refine ⟨_, ?_, apd, OwnLists.later o4 ?_⟩
     · (repeat (first | assumption | exact Below.refl _ _ | refine Below.drew ?_ | refine Below.alloc ?_ (by (try simp); (try omega)) _ | refine Below.setCell ?_ (by (try simp); (try omega)) _))
     · exact (Below.refl _ _).alloc (Nat.le_refl _) _
    obtain ⟨W5, hb5, apd5, o5⟩ := hw5
    have s5 := hb5.size
    have own5 := OWN.out.later hb5
    have bW5 := bX.trans (hb5.mono (Nat.le_trans hN bX.size))
    have b6 : Below N0 w w6 := bW5.trans (apd5.only.below (fun q hq => (HLO.out.2 q hq).1) (Nat.le_trans hN bW5.size))
    have sn := OwnParts.snoc (c' := c'') own5.parts apd5 o5 (fun q hq hq' => by have := lo4' q hq; have := HLO.out.2 q hq'; have := bX.size; omega) (fun i hi q hq hq' => by
     have h4 := lo4' q hq
     obtain ⟨c, hc, hq'⟩ := hq'
     have := OWN.out.parts.lt (Or.inr ⟨i, hi, c, hc, hq'⟩)
     omega)
    have hInP : ∀ q, InPt a'' (x.parts ++ [⟨y, false⟩]) (fun k => if k = x.parts.length then A' else A2 k) q → InPt f3 x.parts A2 q ∨ X.heap.size ≤ q := by
     rintro q (hq | ⟨i, hi, c, hc, hq⟩)
     · rcases apd5.at_ q hq.2 with h | h
       · exact Or.inl (Or.inl (CAPN.out q h))
       · exact Or.inr (by omega)
     · by_cases e : i = x.parts.length
       · subst e
         simp only [if_true, gq_snoc_eq] at hq
         exact Or.inr (lo4' q ⟨c, hc, hq⟩)
       · have hi' : i < x.parts.length := by simp at hi; omega
         simp only [if_neg e, gq_snoc_lt hi'] at hq
         exact Or.inl (Or.inr ⟨i, hi', c, hc, hq⟩)
    have hff : ∀ q, InAddr f3 q → InPt f3 x.parts A2 q := fun q h => Or.inl (CAPN.out q h)
    have own6 : OwnBook w6 (putAt x y) f0 f1 f2 a'' A C (fun k => if k = x.parts.length then A' else A2 k) (fun k => if k = x.parts.length then C' else C2 k) := by
     unfold putAt
     rw [← hke]
     refine ⟨own5.foes.only apd5.only (fun q hq h => OWN.out.d03 q hq (hff q h)), own5.spots.only apd5.only (fun q hq h => OWN.out.d13 q hq (hff q h)), own5.valves.only apd5.only (fun q hq h => OWN.out.d23 q hq (hff q h)), sn, OWN.out.d01, OWN.out.d02, fun q hq hq' => ?_, OWN.out.d12, fun q hq hq' => ?_, fun q hq hq' => ?_⟩
     · rcases hInP q hq' with h | h
       · exact OWN.out.d03 q hq h
       · have := OWN.out.foes.lt hq; omega
     · rcases hInP q hq' with h | h
       · exact OWN.out.d13 q hq h
       · have := OWN.out.spots.lt hq; omega
     · rcases hInP q hq' with h | h
       · exact OWN.out.d23 q hq h
       · have := OWN.out.valves.lt hq; omega
    have far : ∀ q, InBk (putAt x y) f0 f1 f2 a'' A (fun k => if k = x.parts.length then A' else A2 k) q → q ≠ w.heap.size ∧ q ≠ w.heap.size + 1 + 1 ∧ N0 ≤ q ∧ q ≠ Bx := by
     have hz := HB0.out.2
     have far0 : ∀ q, InBk ⟨x.foes, upTo (grantS y.stuffs) x.spots y.uses k, x.valves, x.parts, x.seen⟩ f0 f1 f2 f3 A A2 q → q ≠ w.heap.size ∧ q ≠ w.heap.size + 1 + 1 ∧ N0 ≤ q ∧ q ≠ Bx := fun q hq => by have := LO.out q hq; omega
     unfold putAt
     rw [← hke]
     rintro q (hq | hq | hq | hq)
     · exact far0 q (Or.inl hq)
     · exact far0 q (Or.inr (Or.inl hq))
     · exact far0 q (Or.inr (Or.inr (Or.inl hq)))
     · rcases hInP q hq with h | h
       · exact far0 q (Or.inr (Or.inr (Or.inr h)))
       · have := bX.size; omega
    have own7 := own6.only (Only.cell w6 ⟨w.heap.size, 3, none⟩ (.slice a'' (x.parts.length + 1) c'')) (fun q hq e => (far q hq).1 e)
    have rB7 := rB6.set 3 (.slice a'' (x.parts.length + 1) c'')
    have rX7 := rX6.other (a := ⟨w.heap.size, 3, none⟩) (by simp; omega) (.slice a'' (x.parts.length + 1) c'')
    have rZ7 := rZ6.other (a := ⟨w.heap.size, 3, none⟩) (by simp; omega) (.slice a'' (x.parts.length + 1) c'')
    have b7 := b6.setCell (p := ⟨w.heap.size, 3, none⟩) hN (.slice a'' (x.parts.length + 1) c'')
    obtain ⟨w7, hw7⟩ : ∃ W, W = w6.setCell ⟨w.heap.size, 3, none⟩ (.slice a'' (x.parts.length + 1) c'') := ⟨_, rfl⟩
    rw [← hw7] at own7 rB7 rX7 rZ7 b7 ⊢
    have OWN7 : Hid _ := And.intro own7 (And.intro (fun q hq => (far q hq).2) rX7)
    clear hw7 own7 far own6 hff hInP sn b6 bW5 own5 s5 hb5 apd5 o5 apd rB6 rW6 rX6 rZ6 rX7 hS6 q36 q36f hS hWant hOwn OWN LO RX bXX o4 lo4' hb4 hbY sY g3 v0 v1 v2 v4 v5 hnB hnB1 hnB2 q3
    have t0 := rB7.cell 0 rfl
    have t1 := rB7.cell 1 rfl
    have t2 := rB7.cell 2 rfl
    have t3 := rB7.cell 3 rfl
    have t4 := rB7.cell 4 rfl
    have r0 := rZ7.cell 0 rfl
    have r1 := rZ7.cell 1 rfl
    have r2 := rZ7.cell 2 rfl
    have r3 := rZ7.cell 3 rfl
    have r4 := rZ7.cell 4 rfl
    have l0 := rZ7.frozen 0
    have l1 := rZ7.frozen 1
    have l2 := rZ7.frozen 2
    have l3 := rZ7.frozen 3
    have l4 := rZ7.frozen 4
    go_wp2
    refine bodyPost_ret (v := .agg #[.slice f0 x.foes.length k0, .slice f1 x.spots.length k1, .slice f2 x.valves.length k2, .slice a'' (x.parts.length + 1) c'', .int .i64 x.seen])
     (by simp [results, Tryz.results165, go_sem, r0, r1, r2, r3, r4]) rfl ⟨?_, ?_⟩
    · have g : ∀ q, InBk (putAt x y) f0 f1 f2 a'' A (fun k => if k = x.parts.length then A' else A2 k) q → ¬ q = w.heap.size + 1 + 1 := fun q hq => (OWN7.out.2.1 q hq).1
      have hr : ∀ i, ¬ Bx = (⟨w.heap.size + 1 + 1, i, none⟩ : Addr).block := fun i => by simp; omega
      refine ⟨a'', c'', A, C, _, _, by unfold putAt; simp [upTo_length], ((((OWN7.out.1.only (Only.cell _ ⟨w.heap.size + 1 + 1, 0, none⟩ _) g).only (Only.cell _ ⟨w.heap.size + 1 + 1, 1, none⟩ _) g).only (Only.cell _ ⟨w.heap.size + 1 + 1, 2, none⟩ _) g).only (Only.cell _ ⟨w.heap.size + 1 + 1, 3, none⟩ _) g).only (Only.cell _ ⟨w.heap.size + 1 + 1, 4, none⟩ _) g, fun q hq => (OWN7.out.2.1 q hq).2, ((((OWN7.out.2.2.other (hr 0) _).other (hr 1) _).other (hr 2) _).other (hr 3) _).other (hr 4) _⟩
    · exact ((((b7.setCell (by simp; omega) _).setCell (by simp; omega) _).setCell (by simp; omega) _).setCell (by simp; omega) _).setCell (by simp; omega) _

end Go.Proofs.YtfmhkicncgccjaaGreat

