/- Joined: DrK1. -/
import Derived.Deep.RegionWith
import Derived.Deep.CutBlock
import Derived.Test.YtfmhkicncgccjaaGreatFm06
import Derived.Test.YtfmhkicncgccjaaGreatFm26
import Derived.Test.YtfmhkicncgccjaaGreatFm28
import Derived.Test.YtfmhkicncgccjaaGreatFm01
/- What l5Draw answers, from its second loop on. -/
namespace Go.Proofs.YtfmhkicncgccjaaGreat
open Go.RowKit Go.Sort
set_option linter.unusedSimpArgs false
set_option linter.unusedVariables false

set_option maxRecDepth 100000 in
set_option maxHeartbeats 8000000 in
theorem l5Draw_tail (W0 : World) (Rb : Nat) (a : Option Addr) (n cap : Nat) (f : Nat → Nat) (w : World) (p : Int) (h0 : 0 ≤ p) (h1 : p ≤ 800000000) (x : Book) (af ap av aq : Option Addr) (cf cp cv cq : Nat) (hT : Tiny x) (s : Int) (hRb : Rb < w.heap.size) (W1 : World) (b1 : Below w.heap.size w W1)
 (rB : Row W1 w.heap.size 28 [.slice af x.foes.length cf, .slice ap x.spots.length cp, .slice av x.valves.length cv, .slice aq x.parts.length cq, .int .i64 x.seen]) (rZ : Row W1 (w.heap.size + 1) 38 [.int .i64 0, .int .i64 0, .slice none 0 0, .slice none 0 0, .slice none 0 0, .slice none 0 0]) (sz1 : W1.heap.size = w.heap.size + 2) (d1 : DrB (Rb + 1) W1 x af ap av aq) (Sb : Nat) (kd : Int) (wc : World) (l0 : List ByteArray) (a20 : Option Addr) (c20 : Nat) (p0 : Int)
 (dE : DrwAt W0 Rb a n cap f W1 Sb wc (p0) ⟨s, kd, l0, [], [], []⟩ a20 none none none c20 0 0 0) (hl0 : l0.length ≤ 10001) (hp00 : p ≤ p0) (hp01 : p0 ≤ p + 110) (u8 u9 u15 u16 u17 u18 u19 u20 u21 u22 u23 u24 u25 u26 u27 u28 u29 u30 u31 u32 u33 u34 u35 u36 u37 u38 u39 u40 u41 u42 u43 u44 u45 u46 u47 u48 u49 u50 u51 u52 u53 u54 u55 u56 u57 u58 u59 u60 u61 u62 u63 u64 u65 u66 u67 u68 u69 u70 u71 u72 u73 u74 u75 u76 u77 u78 u79 u80 u81 u82 u83 u84 u85 u86 u87 u88 u89 u90 u91 u92 u93 u94 u95 u96 u97 u98 u99 u100 u101 u102 u103 u104 u105 u106 u107 u108 u109 u110 u111 u112 u113 u114 u115 u116 u117 u118 u119 u120 u121 u122 u123 u124 u125 u126 u127 u128 u129 u130 u131 u132 u133 u134 u135 u136 u137 u138 u139 u140 u141 u142 u143 u144 u145 u146 u147 u148 u149 u150 u151 u152 u153 u154 u155 u156 u157 u158 u159 u160 u161 u162 u163 u164 u165 u166 u167 u168 u169 u170 u171 u172 u173 u174 u175 u176 u177 u178 u179 u180 u181 u182 u183 : Value) {r0 r1 s2 cd : Code} (hc : Tryz.f150.body = some (.seq r0 (.seq r1 (.seq s2 cd)))) :
 Code.wp Tryz.prog cd (bodyPost Tryz.prog Tryz.f150 fun e w' => WantOf W0 Rb a n cap f 20500 w.heap.size p 13000 e w' ∧ Only (fun q => q = Rb) w w') ⟨#[.pointer (some ⟨Rb, 0, none⟩), .agg #[.slice af x.foes.length cf, .slice ap x.spots.length cp, .slice av x.valves.length cv, .slice aq x.parts.length cq, .int .i64 x.seen], .int .i64 s, undef, .pointer (some ⟨w.heap.size, 0, none⟩), undef, .pointer (some ⟨w.heap.size + 1, 0, none⟩), .pointer (some ⟨Sb, 0, none⟩), u8, u9, undef, undef, undef, undef, undef, u15, u16, u17, u18, u19, u20, u21, u22, u23, u24, u25, u26, u27, u28, u29, u30, u31, u32, u33, u34, u35, u36, u37, u38, u39, u40, u41, u42, u43, u44, u45, u46, u47, u48, u49, u50, u51, u52, u53, u54, u55, u56, u57, u58, u59, u60, u61, u62, u63, u64, u65, u66, u67, u68, u69, u70, u71, u72, u73, u74, u75, u76, u77, u78, u79, u80, u81, u82, u83, u84, u85, u86, u87, u88, u89, u90, u91, u92, u93, u94, u95, u96, u97, u98, u99, u100, u101, u102, u103, u104, u105, u106, u107, u108, u109, u110, u111, u112, u113, u114, u115, u116, u117, u118, u119, u120, u121, u122, u123, u124, u125, u126, u127, u128, u129, u130, u131, u132, u133, u134, u135, u136, u137, u138, u139, u140, u141, u142, u143, u144, u145, u146, u147, u148, u149, u150, u151, u152, u153, u154, u155, u156, u157, u158, u159, u160, u161, u162, u163, u164, u165, u166, u167, u168, u169, u170, u171, u172, u173, u174, u175, u176, u177, u178, u179, u180, u181, u182, u183], []⟩ wc := by
 dsimp only [Tryz.f150] at hc
 cases hc
 have hsp := hT.spots.1
 have hvl := hT.valves.1
 obtain ⟨m, c, hsr, hsm, hsc⟩ := d1.spots
 have hf1 := d1.f1
 have hvs := d1.valves
 have hf2 := d1.f2
 have hSb : w.heap.size + 2 ≤ Sb := by have := dE.new; omega
 have hlow : ∀ q : Nat, q = Rb → q < Rb + 1 := fun q hq => by omega
 have BOOK : ∀ X, Only (fun q => q = Rb) W1 X → Row X w.heap.size 28 [.slice af x.foes.length cf, .slice ap x.spots.length cp, .slice av x.valves.length cv, .slice aq x.parts.length cq, .int .i64 x.seen] := fun X ho => rB.only ho (by omega)
 go_wp2_with fail
 go_loopw [10] (fun i wr => ∃ (k : Nat) (l : List ByteArray) (us : List Use) (a2 a3 : Option Addr) (c2 c3 : Nat) (p' : Int) (X : World), X = wr ∧ k ≤ x.spots.length ∧ i = .int .i64 k ∧ DrwAt W0 Rb a n cap f W1 Sb X (p') ⟨s, kd, l, us, [], []⟩ a2 a3 none none c2 c3 0 0 ∧ l.length ≤ 10001 + 100 * k ∧ us.length ≤ k ∧ p ≤ p' ∧ p' ≤ p + 110 + 110 * k) (fun i _ => x.spots.length - (intOf i).toNat)
 case atStart => exact ⟨0, l0, [], a20, none, c20, 0, p0, _, rfl, Nat.zero_le _, rfl, dE, by omega, by simp, by omega, by omega⟩
 case round =>
  obtain ⟨k, l, us, a2, a3, c2, c3, p', X, rfl, hk, rfl, dw, hl, hu, hp1, hp2⟩ := hrel
  clear dE
  have y1 : X.cell? ⟨w.heap.size, 1, none⟩ = some (.slice ap x.spots.length cp) := (BOOK _ dw.on).cell 1 rfl
  by_cases hlt : k < x.spots.length
  · have hlt2 : (k : Int) < x.spots.length := by omega
    have hmay := (hT.spots.2 _ (gp_mem hlt)).2.1
    have hnm := (hT.spots.2 _ (gp_mem hlt)).1
    go_wp2_with fail
    refine (pick_any W0 Rb a n cap f X p' 3 dw.rd (by omega) (by omega)).mono ?_
    rintro e X1 ⟨⟨v, rfl, hv0, hv1⟩, hr1, on1⟩
    have dw1 := dw.pick hr1 on1
    clear dw hr1 on1 hv1 y1
    by_cases hv : 0 < v
    · have DN : Hid _ := dw1
      clear dw1
      go_wp2
      go_roundw
      case rel => exact ⟨k + 1, l, us, _, _, _, _, _, _, rfl, by omega, by go_num, DN.out, by omega, by omega, by omega, by omega⟩
      case measure => simp [intOf]; omega
    · have hSX : Sb < X1.heap.size := dw1.row.lt
      have y1 : X1.cell? ⟨w.heap.size, 1, none⟩ = some (.slice ap x.spots.length cp) := (BOOK _ dw1.on).cell 1 rfl
      obtain ⟨bs, os, has, hbs, hcs⟩ := (RowAt.low hsr dw1.on hf1 hlow) k hlt
      have hcs0 : X1.cell? ⟨bs, os + k * 5, none⟩ = some (.string (gp x.spots k).name) := hcs 0 (by omega)
      have hcs1 : X1.cell? ⟨bs, os + k * 5 + 1, none⟩ = some (.int .i64 (gp x.spots k).cap) := hcs 1 (by omega)
      have hcs4 : X1.cell? ⟨bs, os + k * 5 + 4, none⟩ = some (.slice (m k) (gp x.spots k).may.length (c k)) := hcs 4 (by omega)
      rw [has] at y1
      clear hcs has
      obtain ⟨W3, hW3⟩ : ∃ W, W = X1.alloc (.cells #[.string (gp x.spots k).name, .int .i64 3, .int .i64 0] 101) := ⟨_, rfl⟩
      have b3 : Below X1.heap.size X1 W3 := by rw [hW3]; exact (Below.refl _ _).alloc (Nat.le_refl _) _
      have u3 : Row W3 X1.heap.size 101 [.string (gp x.spots k).name, .int .i64 3, .int .i64 0] := by rw [hW3]; exact Row.new _ _ _
      have dw3 := dw1.later b3
      have ap2 : ∀ q, InSlot a2 l.length q → q ≠ X1.heap.size := fun q hq => by have := dw1.s2.lt hq; omega
      have ap3 : ∀ q, InAddr a3 q → q ≠ X1.heap.size := fun q hq => by have := dw1.s3.cap.lt hq; omega
      have y1' := cell_later b3 y1
      have hcs1' := cell_later b3 hcs1
      have gk : W3.cell? ⟨Sb, 1, none⟩ = some (.int .i64 kd) := dw3.row.cell 1 rfl
      have hold := dw1.old
      have hnew := dw1.new
      clear dw1
      go_upto_region 16 with fail
      rw [← hW3]
      clear hW3 y1 hcs0 hcs1 hcs4 b3
      go_cut [94] (fun q wx => W3 = wx ∧ ∃ tb : Bool, q = .bool tb)
      case first =>
       by_cases hk1 : kd = 1
       · have hkb : (kd == 1) = true := by simp [hk1]
         clear hk1
         go_wp2_with fail
         go_meet
         exact ⟨rfl, _, rfl⟩
       · have hkb : (kd == 1) = false := by simp [hk1]
         clear hk1
         go_wp2_with fail
         go_meet
         exact ⟨rfl, _, rfl⟩
      case rest =>
      obtain ⟨hwc, tb, rfl⟩ := hcut
      subst hwc
      clear gk y1' hcs1'
      go_upto_if 94 with fail
      go_cut [11] (fun q wx => ∃ (ro am p2 : Int), q = .pointer (some ⟨X1.heap.size, 0, none⟩) ∧ Row wx X1.heap.size 101 [.string (gp x.spots k).name, .int .i64 ro, .int .i64 am] ∧ DrwAt W0 Rb a n cap f W1 Sb wx (p2) ⟨s, kd, l, us, [], []⟩ a2 a3 none none c2 c3 0 0 ∧ p' + 1 ≤ p2 ∧ p2 ≤ p' + 3)
      case first =>
       cases tb with
       | true =>
        go_wp2_with fail
        refine (pick_any W0 Rb a n cap f W3 (p' + 1) 2 dw3.rd (by omega) (by omega)).mono ?_
        rintro e X2 ⟨⟨v2, rfl, hv20, hv21⟩, hr2, on2⟩
        have dw4 := dw3.pick hr2 on2
        have u4 := u3.only on2 (by omega)
        have e1 := u4.cell 1 rfl
        have e1f := u4.frozen 1
        have ew : wrap64 (1 + v2) = 1 + v2 := by unfold wrap64; omega
        have dw5 := dw4.aside hSX (fun h => ap2 _ h rfl) (fun h => ap3 _ h rfl) (fun ⟨o, h⟩ => by cases h) (fun h => absurd rfl h.1) 1 (.int .i64 (1 + v2))
        have u5 := u4.set 1 (.int .i64 (1 + v2))
        simp only [List.set_cons_succ, List.set_cons_zero] at u5
        clear dw3 dw4 u3 u4 hr2 on2
        go_wp2_with fail
        refine (pick_any W0 Rb a n cap f _ (p' + 1 + 1) 14 dw5.rd (by omega) (by omega)).mono ?_
        rintro e X3 ⟨⟨v3, rfl, hv30, hv31⟩, hr3, on3⟩
        have dw6 := dw5.pick hr3 on3
        have u6 := u5.only on3 (by omega)
        have e2 := u6.cell 2 rfl
        have e2f := u6.frozen 2
        have ew2 : wrap64 (1 + v3) = 1 + v3 := by unfold wrap64; omega
        have dw7 := dw6.aside hSX (fun h => ap2 _ h rfl) (fun h => ap3 _ h rfl) (fun ⟨o, h⟩ => by cases h) (fun h => absurd rfl h.1) 2 (.int .i64 (1 + v3))
        have u7 := u6.set 2 (.int .i64 (1 + v3))
        simp only [List.set_cons_succ, List.set_cons_zero] at u7
        have FIN : Hid _ := And.intro u7 dw7
        clear dw5 dw6 dw7 u5 u6 u7 hr3 on3 e1 e1f
        go_wp2_with fail
        go_meet
        exact ⟨_, _, _, rfl, FIN.out.1, FIN.out.2, by omega, by omega⟩
       | false =>
        have FIN : Hid _ := And.intro u3 dw3
        clear u3 dw3
        go_wp2_with fail
        go_meet
        exact ⟨_, _, _, rfl, FIN.out.1, FIN.out.2, by omega, by omega⟩
      case rest =>
       obtain ⟨ro, am, p2, rfl, uR, dR, hp3, hp4⟩ := hcut
       clear dw3 u3
       go_upto_block 6 with fail
       go_cut [11] (fun q wx => ∃ (l' : List ByteArray) (a2' : Option Addr) (c2' : Nat) (p3 : Int), q = .pointer (some ⟨X1.heap.size, 0, none⟩) ∧ DrwAt W0 Rb a n cap f W1 Sb wx (p3) ⟨s, kd, l', us, [], []⟩ a2' a3 none none c2' c3 0 0 ∧ Row wx X1.heap.size 101 [.string (gp x.spots k).name, .int .i64 ro, .int .i64 am] ∧ l'.length ≤ l.length + 100 ∧ p2 ≤ p3 ∧ p3 ≤ p2 + 101)
       case rest =>
        obtain ⟨l', a2', c2', p3, rfl, dwY, uY, hl', hp5, hp6⟩ := hcut
        clear dR uR
        obtain ⟨W6, hW6⟩ : ∃ W, W = wc.alloc (.cells #[.string (gp x.spots k).name, .int .i64 ro, .int .i64 am] 101) := ⟨_, rfl⟩
        have b6 : Below wc.heap.size wc W6 := by rw [hW6]; exact (Below.refl _ _).alloc (Nat.le_refl _) _
        have d6 := dwY.later b6
        have hE : RowAt W6 (some ⟨wc.heap.size, 0, none⟩) 1 3 (useF [⟨(gp x.spots k).name, ro, am⟩]) := use_row (u := ⟨(gp x.spots k).name, ro, am⟩) (by rw [hW6]; exact Row.new _ _ _)
        have o6 : OwnL W6 101 3 a3 us.length (useF us) := d6.s3.own
        have p6 : CapOf W6 101 3 a3 us.length c3 := d6.s3.cap
        rw [hW6] at o6 p6 hE
        have e3 : wc.cell? ⟨Sb, 3, none⟩ = some (.slice a3 us.length c3) := dwY.row.cell 3 rfl
        have v0 := uY.cell 0 rfl
        have v1 := uY.cell 1 rfl
        have v2 := uY.cell 2 rfl
        have hSY : Sb < wc.heap.size := dwY.row.lt
        clear dwY
        go_wp2_with (at_builtin; refine wpList_append_row (by rfl) _ _ (by rfl) sliceUse a3 us.length c3 _ (by rfl) o6 p6 (some ⟨wc.heap.size, 0, none⟩) 1 1 (useF [⟨(gp x.spots k).name, ro, am⟩]) (by rfl) hE (oneUse _) (by omega) ?_)
        rw [← hW6]
        intro a6 c6 w7 apd
        have dn := d6.use (u := ⟨(gp x.spots k).name, ro, am⟩) (fun j hj => rfl) apd hnm
        have r7 := d6.row.only apd.only (fun hq => by have := d6.s3.lo _ hq; omega)
        have f7 := r7.frozen 3
        have e7 : w7.cell? ⟨Sb, 3, none⟩ = some (.slice a3 us.length c3) := r7.cell 3 rfl
        have DN : Hid _ := dn
        clear dn r7 apd d6 hE o6 p6 b6 hW6 e3 v0 v1 v2
        go_wp2
        go_roundw
        case rel => exact ⟨k + 1, l', us ++ [⟨(gp x.spots k).name, ro, am⟩], _, _, _, _, p3, _, rfl, by omega, by go_num, DN.out, by omega, by simp; omega, by omega, by omega⟩
        case measure => simp [intOf]; omega
       case first =>
       go_wp2_with fail
       go_loopw [12] (fun j wr => ∃ (q : Nat) (l' : List ByteArray) (a2' : Option Addr) (c2' : Nat) (p3 : Int) (Y : World), Y = wr ∧ q ≤ (gp x.spots k).may.length ∧ j = .int .i64 q ∧ DrwAt W0 Rb a n cap f W1 Sb Y (p3) ⟨s, kd, l', us, [], []⟩ a2' a3 none none c2' c3 0 0 ∧ Row Y X1.heap.size 101 [.string (gp x.spots k).name, .int .i64 ro, .int .i64 am] ∧ (∀ t, InSlot a2' l'.length t → t ≠ X1.heap.size) ∧ l'.length ≤ l.length + q ∧ p2 ≤ p3 ∧ p3 ≤ p2 + q) (fun j _ => (gp x.spots k).may.length - (intOf j).toNat)
       case atStart => exact ⟨0, l, a2, c2, p2, _, rfl, Nat.zero_le _, rfl, dR, uR, ap2, by omega, by omega, by omega⟩
       case round =>
        obtain ⟨q, l', a2', c2', p3, Y, rfl, hq, rfl, dwY, uY, apY, hl', hp5, hp6⟩ := hrel
        clear dR uR
        have y1 : Y.cell? ⟨w.heap.size, 1, none⟩ = some (.slice ap x.spots.length cp) := (BOOK _ dwY.on).cell 1 rfl
        obtain ⟨bs, os, has, hbs, hcs⟩ := (RowAt.low hsr dwY.on hf1 hlow) k hlt
        have hcs0 : Y.cell? ⟨bs, os + k * 5, none⟩ = some (.string (gp x.spots k).name) := hcs 0 (by omega)
        have hcs1 : Y.cell? ⟨bs, os + k * 5 + 1, none⟩ = some (.int .i64 (gp x.spots k).cap) := hcs 1 (by omega)
        have hcs4 : Y.cell? ⟨bs, os + k * 5 + 4, none⟩ = some (.slice (m k) (gp x.spots k).may.length (c k)) := hcs 4 (by omega)
        rw [has] at y1
        clear hcs has
        have gk : Y.cell? ⟨Sb, 1, none⟩ = some (.int .i64 kd) := dwY.row.cell 1 rfl
        have ur : Y.cell? ⟨X1.heap.size, 1, none⟩ = some (.int .i64 ro) := uY.cell 1 rfl
        clear hcs0 hcs1
        by_cases hqt : q < (gp x.spots k).may.length
        · have hqt2 : (q : Int) < (gp x.spots k).may.length := by omega
          by_cases hk1 : kd = 1
          · have hkb : (kd == 1) = true := by simp [hk1]
            clear hk1
            by_cases hro : ro = 2
            · have hrob : (ro != 2) = false := by simp [hro]
              clear hro
              have FIN : Hid _ := And.intro dwY uY
              clear dwY uY
              go_wp2_with fail
              go_meet
              exact ⟨l', a2', c2', p3, rfl, FIN.out.1, FIN.out.2, by omega, by omega, by omega⟩
            · have hrob : (ro != 2) = true := by simp [hro]
              clear hro
              go_wp2_with fail
              refine (pick_any W0 Rb a n cap f Y p3 4 dwY.rd (by omega) (by omega)).mono ?_
              rintro e Z ⟨⟨v4, rfl, hv40, hv41⟩, hr4, on4⟩
              have dwZ := dwY.pick hr4 on4
              have uZ := uY.only on4 (by omega)
              clear dwY uY hr4 on4 hv41 y1 hcs4 gk ur
              by_cases hv4 : 0 < v4
              · have hUZ : X1.heap.size < Z.heap.size := uZ.lt
                have y1 : Z.cell? ⟨w.heap.size, 1, none⟩ = some (.slice ap x.spots.length cp) := (BOOK _ dwZ.on).cell 1 rfl
                obtain ⟨bs, os, has, hbs, hcs⟩ := (RowAt.low hsr dwZ.on hf1 hlow) k hlt
                have hcs0 : Z.cell? ⟨bs, os + k * 5, none⟩ = some (.string (gp x.spots k).name) := hcs 0 (by omega)
                have hcs1 : Z.cell? ⟨bs, os + k * 5 + 1, none⟩ = some (.int .i64 (gp x.spots k).cap) := hcs 1 (by omega)
                have hcs4 : Z.cell? ⟨bs, os + k * 5 + 4, none⟩ = some (.slice (m k) (gp x.spots k).may.length (c k)) := hcs 4 (by omega)
                rw [has] at y1
                clear hcs has
                obtain ⟨bm, om, ham, hbm, hcm⟩ := (RowAt.low (hsm k hlt).1 dwZ.on (hsm k hlt).2 hlow) q hqt
                have hcm0 : Z.cell? ⟨bm, om + q, none⟩ = some (.string (gs (gp x.spots k).may q)) := by have := hcm 0 (by omega); simpa using this
                rw [ham] at hcs4
                clear hcm ham
                have hY0 : Z.cell? ⟨Sb, 2, none⟩ = some (.slice a2' l'.length c2') := dwZ.row.cell 2 rfl
                have hS : ∀ W, Below Z.heap.size Z W → (W.cell? ⟨Sb, 2, none⟩ = some (.slice a2' l'.length c2') ∧ W.cell? ⟨w.heap.size, 1, none⟩ = some (.slice (some ⟨bs, os, none⟩) x.spots.length cp) ∧ W.cell? ⟨bs, os + k * 5 + 4, none⟩ = some (.slice (some ⟨bm, om, none⟩) (gp x.spots k).may.length (c k)) ∧ W.cell? ⟨bm, om + q, none⟩ = some (.string (gs (gp x.spots k).may q))) := fun W hb => ⟨cell_later hb hY0, cell_later hb y1, cell_later hb hcs4, cell_later hb hcm0⟩
                have hS0 := hS Z (Below.refl _ _)
                have INS : ∀ W, Below Z.heap.size Z W → Calls Tryz.prog 166 #[.slice a2' l'.length c2', .string (gs (gp x.spots k).may q)] W fun e w' => (∃ a' c', e = .returned (.slice a' (insS l' (gs (gp x.spots k).may q)).length c') ∧ OwnL w' 9 1 a' (insS l' (gs (gp x.spots k).may q)).length (strF (insS l' (gs (gp x.spots k).may q))) ∧ (insS l' (gs (gp x.spots k).may q)).length ≤ c' ∧ ∀ y, InSlot a' (insS l' (gs (gp x.spots k).may q)).length y → InSlot a2' l'.length y ∨ W.heap.size ≤ y) ∧ Below W.heap.size W w' := fun W hb => l3Insert_own a2' c2' l' _ W (dwZ.s2.later hb) (by omega) dwZ.k2
                have hss : (gs (gp x.spots k).may q).size ≤ 100 := (hT.spots.2 _ (gp_mem hlt)).2.2 _ (gs_mem hqt)
                generalize gs (gp x.spots k).may q = sx at hS hS0 INS hss hcm0
                have hsl := insS_len sx l'
                have hsh : ∀ t ∈ insS l' sx, t.size ≤ 100 := fun t ht => (mem_insS ht).elim (fun h => dwZ.short.stuffs t h) (fun h => by rw [h]; exact hss)
                generalize insS l' sx = li at INS hsl hsh
                go_wp2_with fail
                refine wp_region_E (fun W => W.cell? ⟨Sb, 2, none⟩ = some (.slice a2' l'.length c2') ∧ W.cell? ⟨w.heap.size, 1, none⟩ = some (.slice (some ⟨bs, os, none⟩) x.spots.length cp) ∧ W.cell? ⟨bs, os + k * 5 + 4, none⟩ = some (.slice (some ⟨bm, om, none⟩) (gp x.spots k).may.length (c k)) ∧ W.cell? ⟨bm, om + q, none⟩ = some (.string sx)) 13 (by kernel_rfl) ?_
                refine tk 0 ?vab0 rfl (by kernel_rfl) (fun _ _ _ h => h) (by rfl) (hS0) ?yab0 ?rab0
                case yab0 => intro w' h; (try dsimp only at h); go_simp; (try with_reducible rfl)
                try simp only [Act.put, sA, sB, sC]
                refine tk 1 ?vab1 rfl (by kernel_rfl) (fun _ _ _ h => h) (by rfl) (hS0) ?yab1 ?rab1
                case yab1 => intro w' h; (try dsimp only at h); go_simp; (try with_reducible rfl)
                try simp only [Act.put, sA, sB, sC]
                refine tk 2 ?vab2 rfl (by kernel_rfl) (fun _ _ _ h => h) (by rfl) (hS0) ?yab2 ?rab2
                case yab2 => intro w' h; (try dsimp only at h); go_simp; (try with_reducible rfl)
                try simp only [Act.put, sA, sB, sC]
                refine tk 3 ?vab3 rfl (by kernel_rfl) (fun _ _ _ h => h) (by rfl) (hS0) ?yab3 ?rab3
                case yab3 => intro w' h; (try dsimp only at h); go_simp; (try with_reducible rfl)
                try simp only [Act.put, sA, sB, sC]
                refine tk 4 ?vab4 rfl (by kernel_rfl) (fun _ _ _ h => h) (by rfl) (hS0) ?yab4 ?rab4
                case yab4 => intro w' h; (try dsimp only at h); go_simp; (try with_reducible rfl)
                try simp only [Act.put, sA, sB, sC]
                refine tk 5 ?vab5 rfl (by kernel_rfl) (fun _ _ _ h => h) (by rfl) (hS0) ?yab5 ?rab5
                case yab5 => intro w' h; (try dsimp only at h); go_simp; (try with_reducible rfl)
                try simp only [Act.put, sA, sB, sC]
                refine tk 6 ?vab6 rfl (by kernel_rfl) (fun _ _ _ h => h) (by rfl) (hS0) ?yab6 ?rab6
                case yab6 => intro w' h; (try dsimp only at h); go_simp; (try with_reducible rfl)
                try simp only [Act.put, sA, sB, sC]
                refine tk 7 ?vab7 rfl (by kernel_rfl) (fun _ _ _ h => h) (by rfl) (hS0) ?yab7 ?rab7
                case yab7 => intro w' h; (try dsimp only at h); go_simp; (try with_reducible rfl)
                try simp only [Act.put, sA, sB, sC]
                refine tk 8 ?vab8 rfl (by kernel_rfl) (fun _ _ _ h => h) (by rfl) (hS0) ?yab8 ?rab8
                case yab8 => intro w' h; (try dsimp only at h); go_simp; (try with_reducible rfl)
                try simp only [Act.put, sA, sB, sC]
                refine tk 9 ?vab9 rfl (by kernel_rfl) (fun _ _ _ h => h) (by rfl) (hS0) ?yab9 ?rab9
                case yab9 => intro w' h; (try dsimp only at h); go_simp; (try with_reducible rfl)
                try simp only [Act.put, sA, sB, sC]
                refine tk 10 ?vab10 rfl (by kernel_rfl) (fun _ _ _ h => h) (by rfl) (hS0) ?yab10 ?rab10
                case yab10 => intro w' h; (try dsimp only at h); go_simp; (try with_reducible rfl)
                try simp only [Act.put, sA, sB, sC]
                refine wpAnyE_oneC (i := 11) rfl (by kernel_rfl) ?_
                intro K hK
                rw [if_pos (by rfl)]
                go_wp2_with (go_at_call 166; refine (INS _ (by (repeat (first | assumption | exact Below.refl _ _ | refine Below.drew ?_ | refine Below.alloc ?_ (by (try simp); (try omega)) _ | refine Below.setCell ?_ (by (try simp); (try omega)) _)))).mono ?_; rintro e X9 ⟨⟨a9, c9, rfl, ow9, hc9, at9⟩, hb9⟩; have hz9 := hb9.size; have bX9 : Below Z.heap.size Z X9 := below_next (by (repeat (first | assumption | exact Below.refl _ _ | refine Below.drew ?_ | refine Below.alloc ?_ (by (try simp); (try omega)) _ | refine Below.setCell ?_ (by (try simp); (try omega)) _))) hb9; have at9' : ∀ q, InSlot a9 li.length q → InSlot a2' l'.length q ∨ Z.heap.size ≤ q := fun q hq => at9 q hq; clear at9)
                refine hK.out _ _ (fun _ => hS _ bX9) ?_
                clear hK K
                try simp only [Act.put, sA, sB, sC]
                have f2 := (dwZ.row.later bX9).frozen 2
                have e2 : X9.cell? ⟨Sb, 2, none⟩ = some (.slice a2' l'.length c2') := (dwZ.row.later bX9).cell 2 rfl
                have dn := dwZ.stuffs bX9 ow9 hc9 at9' hsh
                have DN : Hid _ := dn
                have u9 := (uZ.later bX9).only (Only.cell _ ⟨Sb, 2, none⟩ (.slice a9 li.length c9)) (fun e => by have e' : X1.heap.size = Sb := e; omega)
                have ap9 : ∀ t, InSlot a9 li.length t → t ≠ X1.heap.size := fun t ht => (at9' t ht).elim (fun h => apY t h) (fun h => by omega)
                have UN : Hid _ := And.intro u9 ap9
                clear u9 ap9
                clear dn at9' ow9 INS
                refine tk 12 ?vab12 rfl (by kernel_rfl) (fun _ _ _ h => h) (by rfl) (hS _ bX9) ?yab12 ?rab12
                case yab12 => intro w' h; (try dsimp only at h); go_simp; (try with_reducible rfl)
                try simp only [Act.put, sA, sB, sC]
                refine wpAnyE_oneC (i := 13) rfl (by kernel_rfl) ?_
                intro K hK
                rw [if_pos (by rfl)]
                go_wp2_with fail
                refine hK.out _ _ (fun h => absurd rfl h) ?_
                clear hK K
                try simp only [Act.put, sA, sB, sC]
                refine wpAnyE_done (by kernel_rfl) ?_ _
                clear hS hS0 hY0 y1 hcs0 hcs1 hcs4 hcm0 f2 e2 bX9 hb9
                go_wp2
                go_roundw
                case rel => exact ⟨q + 1, li, _, _, p3 + 1, _, rfl, by omega, by go_num, DN.out, UN.out.1, UN.out.2, by omega, by omega, by omega⟩
                case measure => simp [intOf]; omega
              · skip
                have FIN : Hid _ := And.intro dwZ uZ
                clear dwZ uZ
                go_wp2_with fail
                go_meet
                exact ⟨l', a2', c2', p3 + 1, rfl, FIN.out.1, FIN.out.2, by omega, by omega, by omega⟩
          · have hkb : (kd == 1) = false := by simp [hk1]
            clear hk1
            have FIN : Hid _ := And.intro dwY uY
            clear dwY uY
            go_wp2_with fail
            go_meet
            exact ⟨l', a2', c2', p3, rfl, FIN.out.1, FIN.out.2, by omega, by omega, by omega⟩
        · have hqt2 : ¬ (q : Int) < (gp x.spots k).may.length := by omega
          have FIN : Hid _ := And.intro dwY uY
          clear dwY uY
          go_wp2_with fail
          go_meet
          exact ⟨l', a2', c2', p3, rfl, FIN.out.1, FIN.out.2, by omega, by omega, by omega⟩
  · have hlt2 : ¬ (k : Int) < x.spots.length := by omega
    have y2 : X.cell? ⟨w.heap.size, 2, none⟩ = some (.slice av x.valves.length cv) := (BOOK _ dw.on).cell 2 rfl
    go_wp2_with fail
    refine (l5Some_any W0 Rb a n cap f X p' 4 dw.rd (by omega) (by omega) av cv x.valves (RowAt.low hvs dw.on hf2 hlow) hf2 (by omega)).mono ?_
    rintro e X2 ⟨⟨lv, a5, c5, p2, rfl, owv, hlv, hmv, hp5, hp6, hr2⟩, on2⟩
    have dP := dw.pick hr2 on2
    have dS := dw.shuts hr2 on2 owv (fun t ht => hT.valves.2 t (hmv t ht))
    have e5 : X2.cell? ⟨Sb, 5, none⟩ = some (.slice none 0 0) := dP.row.cell 5 rfl
    have e5f := dP.row.frozen 5
    obtain ⟨X3, hX3⟩ : ∃ W, W = X2.setCell ⟨Sb, 5, none⟩ (.slice a5 lv.length c5) := ⟨_, rfl⟩
    rw [← hX3] at dS
    have gk : X3.cell? ⟨Sb, 1, none⟩ = some (.int .i64 kd) := dS.row.cell 1 rfl
    have gk2 : (X2.setCell ⟨Sb, 5, none⟩ (.slice a5 lv.length c5)).cell? ⟨Sb, 1, none⟩ = some (.int .i64 kd) := by rw [← hX3]; exact gk
    have gk3 : X2.cell? ⟨Sb, 1, none⟩ = some (.int .i64 kd) := dP.row.cell 1 rfl
    clear dw dP hr2 on2 owv y1 y2
    go_upto_if 155 with fail
    rw [← hX3]
    clear hX3 e5 e5f gk2 gk3
    go_cut [7] (fun q wx => ∃ (ls : List ByteArray) (a4 : Option Addr) (c4 : Nat) (p3 : Int), q = .pointer (some ⟨Sb, 0, none⟩) ∧ DrwAt W0 Rb a n cap f W1 Sb wx (p3) ⟨s, kd, l, us, ls, lv⟩ a2 a3 a4 a5 c2 c3 c4 c5 ∧ ls.length ≤ 100 ∧ p ≤ p3 ∧ p3 ≤ p + 13000)
    case first =>
     by_cases hk1 : kd = 1
     · have hkb : (kd == 1) = true := by simp [hk1]
       clear hk1
       have y2 : X3.cell? ⟨w.heap.size, 2, none⟩ = some (.slice av x.valves.length cv) := (BOOK _ dS.on).cell 2 rfl
       go_wp2_with fail
       refine (l5Some_any W0 Rb a n cap f X3 p2 3 dS.rd (by omega) (by omega) av cv x.valves (RowAt.low hvs dS.on hf2 hlow) hf2 (by omega)).mono ?_
       rintro e X4 ⟨⟨ll, al, cl, p3, rfl, owl, hll, hml, hp7, hp8, hr4⟩, on4⟩
       have dF := dS.pick hr4 on4
       have hS3 : Sb < X3.heap.size := dS.row.lt
       have hnl : ∀ t ∈ ll, t.size ≤ 100 := fun t ht => hT.valves.2 t (hml t ht)
       have hal : ∀ q, InSlot al ll.length q → Sb < q ∧ q < X4.heap.size := fun q hq => ⟨by have := owl.lo q hq.2; omega, owl.own.lt hq⟩
       have hsl0 : StrsAt X4 al ll := owl.own.rowAt
       clear dS hr4 on4 gk y2 owl
       go_wp2_with fail
       go_loopw [14] (fun i wr => ∃ (k4 : Nat) (ls : List ByteArray) (a4 : Option Addr) (c4 : Nat) (Y : World), Y = wr ∧ k4 ≤ ll.length ∧ i = .int .i64 k4 ∧ DrwAt W0 Rb a n cap f W1 Sb Y (p3) ⟨s, kd, l, us, ls, lv⟩ a2 a3 a4 a5 c2 c3 c4 c5 ∧ StrsAt Y al ll ∧ (∀ q, InSlot al ll.length q → ¬ InAddr a4 q) ∧ X4.heap.size ≤ Y.heap.size ∧ ls.length ≤ k4) (fun i _ => ll.length - (intOf i).toNat)
       case atStart => exact ⟨0, [], none, 0, _, rfl, Nat.zero_le _, rfl, dF, hsl0, fun q hq ⟨o, e⟩ => (by cases e), Nat.le_refl _, by simp⟩
       case round =>
        obtain ⟨k4, ls, a4, c4, Y, rfl, hk4, rfl, dwY, hsl, ap4, hszY, hls⟩ := hrel
        clear dF hsl0
        by_cases hlt4 : k4 < ll.length
        · have hlt4b : (k4 : Int) < ll.length := by omega
          obtain ⟨bl, ol, hale, hbl, hcl⟩ := hsl k4 hlt4
          have hcl0 : Y.cell? ⟨bl, ol + k4, none⟩ = some (.string (gs ll k4)) := by have := hcl 0 (by omega); simpa using this
          clear hcl
          have HAL : Hid (al = some ⟨bl, ol, none⟩) := hale
          have hInl : InSlot al ll.length bl := ⟨by omega, ol, hale⟩
          have hblb := hal bl hInl
          have hbl4 := ap4 bl hInl
          have HSL : Hid _ := And.intro hsl (And.intro ap4 (And.intro hal hInl))
          clear hsl ap4 hal hInl
          subst hale
          have e5 : Y.cell? ⟨Sb, 5, none⟩ = some (.slice a5 lv.length c5) := dwY.row.cell 5 rfl
          have hHas := fun W (hb : Below Y.heap.size Y W) => l1Has_any a5 c5 lv (gs ll k4) W (RowAt.later dwY.s5.rowAt hb) (by unfold maxLen; omega)
          have hsx : (gs ll k4).size ≤ 100 := gs_short hnl hlt4
          generalize gs ll k4 = sx at hcl0 hHas hsx
          go_upto_region 30 with fail
          go_cut [173] (fun q wx => Below Y.heap.size Y wx ∧ q = .bool (!hasB lv sx))
          case first =>
           clear dwY HSL
           go_region_with (go_at_call 29; refine (hHas _ (by (repeat (first | assumption | exact Below.refl _ _ | refine Below.drew ?_ | refine Below.alloc ?_ (by (try simp); (try omega)) _ | refine Below.setCell ?_ (by (try simp); (try omega)) _)))).mono ?_; rintro e w' ⟨rfl, rfl⟩)
           all_goals
            go_wp2_with fail
            go_meet
            exact ⟨(by (repeat (first | assumption | exact Below.refl _ _ | refine Below.drew ?_ | refine Below.alloc ?_ (by (try simp); (try omega)) _ | refine Below.setCell ?_ (by (try simp); (try omega)) _))), rfl⟩
          case rest =>
          obtain ⟨hbc, rfl⟩ := hcut
          have hzc := hbc.size
          clear hHas
          cases hh : hasB lv sx with
          | true =>
           have DN : Hid _ := dwY.later hbc
           clear dwY
           go_wp2
           go_roundw
           case rel => exact ⟨k4 + 1, ls, _, _, _, rfl, by omega, by go_num, DN.out, RowAt.later HSL.out.1 hbc, HSL.out.2.1, by have := hbc.size; omega, by omega⟩
           case measure => simp [intOf]; omega
          | false =>
           go_wp2_with fail
           have hY0 : Y.cell? ⟨Sb, 4, none⟩ = some (.slice a4 ls.length c4) := dwY.row.cell 4 rfl
           have hS : ∀ W, Below Y.heap.size Y W → (W.cell? ⟨Sb, 4, none⟩ = some (.slice a4 ls.length c4) ∧ W.cell? ⟨bl, ol + k4, none⟩ = some (.string sx)) := fun W hb => ⟨cell_later hb hY0, cell_later hb hcl0⟩
           have hS0 := hS wc hbc
           have hOwn : ∀ W, Below Y.heap.size Y W → OwnL W 9 1 a4 ls.length (strF ls) ∧ CapOf W 9 1 a4 ls.length c4 := fun W hb => ⟨dwY.s4.own.later hb, dwY.s4.cap.later hb⟩
           refine wp_region_E (fun W => W.cell? ⟨Sb, 4, none⟩ = some (.slice a4 ls.length c4) ∧ W.cell? ⟨bl, ol + k4, none⟩ = some (.string sx)) 9 (by kernel_rfl) ?_
           refine tk 0 ?vac0 rfl (by kernel_rfl) (fun _ _ _ h => h) (by rfl) (hS0) ?yac0 ?rac0
           case yac0 => intro w' h; (try dsimp only at h); go_simp; (try with_reducible rfl)
           try simp only [Act.put, sA, sB, sC]
           refine tk 1 ?vac1 rfl (by kernel_rfl) (fun _ _ _ h => h) (by rfl) (hS0) ?yac1 ?rac1
           case yac1 => intro w' h; (try dsimp only at h); go_simp; (try with_reducible rfl)
           try simp only [Act.put, sA, sB, sC]
           refine tk 2 ?vac2 rfl (by kernel_rfl) (fun _ _ _ h => h) (by rfl) (hS0) ?yac2 ?rac2
           case yac2 => intro w' h; (try dsimp only at h); go_simp; (try with_reducible rfl)
           try simp only [Act.put, sA, sB, sC]
           refine tk 3 ?vac3 rfl (by kernel_rfl) (fun _ _ _ h => h) (by rfl) (hS0) ?yac3 ?rac3
           case yac3 => intro w' h; (try dsimp only at h); go_simp; (try with_reducible rfl)
           try simp only [Act.put, sA, sB, sC]
           refine tk 4 ?vac4 rfl (by kernel_rfl) (fun _ _ _ h => h) (by rfl) (hS0) ?yac4 ?rac4
           case yac4 => intro w' h; (try dsimp only at h); go_simp; (try with_reducible rfl)
           try simp only [Act.put, sA, sB, sC]
           refine tk 5 ?vac5 rfl (by kernel_rfl) (fun _ _ _ h => h) (by rfl) (hS0) ?yac5 ?rac5
           case yac5 => intro w' h; (try dsimp only at h); go_simp; (try with_reducible rfl)
           try simp only [Act.put, sA, sB, sC]
           refine wpAnyE_oneC (i := 6) rfl (by kernel_rfl) ?_
           intro K hK
           rw [if_pos (by rfl)]
           go_wp2_with fail
           refine hK.out _ _ (fun _ => hS _ (by (repeat (first | assumption | exact Below.refl _ _ | refine Below.drew ?_ | refine Below.alloc ?_ (by (try simp); (try omega)) _ | refine Below.setCell ?_ (by (try simp); (try omega)) _)))) ?_
           clear hK K
           try simp only [Act.put, sA, sB, sC]
           refine wpAnyE_oneC (i := 7) rfl (by kernel_rfl) ?_
           intro K hK
           refine step_append_row (by rfl) _ _ (by rfl) sliceStr a4 ls.length c4 _ (by rfl) (hOwn _ (by (repeat (first | assumption | exact Below.refl _ _ | refine Below.drew ?_ | refine Below.alloc ?_ (by (try simp); (try omega)) _ | refine Below.setCell ?_ (by (try simp); (try omega)) _)))).1 (hOwn _ (by (repeat (first | assumption | exact Below.refl _ _ | refine Below.drew ?_ | refine Below.alloc ?_ (by (try simp); (try omega)) _ | refine Below.setCell ?_ (by (try simp); (try omega)) _)))).2 (some ⟨wc.heap.size, 0, none⟩) 1 1 (fun _ _ => .string sx) (by rfl) (rowAt_one (t := 9) (Row.new' (by simp))) (fun _ _ => rfl) (by omega) ?_
           intro a6 c6 w6 apd
           have hw5 : ∃ W5 : World, Below Y.heap.size Y W5 ∧ Appended 9 1 W5 w6 a4 ls.length 1 (strF ls) (fun _ _ => .string sx) a6 c6 := ⟨_, (by (repeat (first | assumption | exact Below.refl _ _ | refine Below.drew ?_ | refine Below.alloc ?_ (by (try simp); (try omega)) _ | refine Below.setCell ?_ (by (try simp); (try omega)) _))), apd⟩
           clear apd
           obtain ⟨W5, hb5, apd⟩ := hw5
           have d5 := dwY.later hb5
           have dn := d5.opens apd hsx
           have r6 := d5.row.only apd.only (fun hq => by have := d5.s4.lo _ hq; omega)
           have f6 := r6.frozen 4
           have e6 : w6.cell? ⟨Sb, 4, none⟩ = some (.slice a4 ls.length c4) := r6.cell 4 rfl
           have hS6 : w6.cell? ⟨Sb, 4, none⟩ = some (.slice a4 ls.length c4) ∧ w6.cell? ⟨bl, ol + k4, none⟩ = some (.string sx) := ⟨e6, cell_only apd.only (cell_later hb5 hcl0) (by have := hb5.size; omega) hbl4⟩
           have sl6 := RowAt.only (RowAt.only (RowAt.later HSL.out.1 hb5) apd.only HSL.out.2.1) (Only.cell w6 ⟨Sb, 4, none⟩ (.slice a6 (ls.length + 1) c6)) (fun q hq e => by have := (HSL.out.2.2.1 q hq).1; have e' : q = Sb := e; omega)
           have ap6 : ∀ q, InSlot (some ⟨bl, ol, none⟩) ll.length q → ¬ InAddr a6 q := fun q hq hq' => (apd.at_ q hq').elim (fun h => HSL.out.2.1 q hq h) (fun h => by have := (HSL.out.2.2.1 q hq).2; have := hb5.size; omega)
           have sz6 : X4.heap.size ≤ (w6.setCell ⟨Sb, 4, none⟩ (.slice a6 (ls.length + 1) c6)).heap.size := by rw [Go.Deep.nblk_setCell]; have := hb5.size; have := apd.only.size; omega
           have DN : Hid _ := And.intro dn (And.intro sl6 (And.intro ap6 sz6))
           clear dn sl6 ap6 sz6 r6 apd d5 hOwn hb5
           refine hK.out _ _ (fun _ => hS6) ?_
           clear hK K
           try simp only [Act.put, sA, sB, sC]
           refine tk 8 ?vac8 rfl (by kernel_rfl) (fun _ _ _ h => h) (by rfl) (hS6) ?yac8 ?rac8
           case yac8 => intro w' h; (try dsimp only at h); go_simp; (try with_reducible rfl)
           try simp only [Act.put, sA, sB, sC]
           refine wpAnyE_oneC (i := 9) rfl (by kernel_rfl) ?_
           intro K hK
           rw [if_pos (by rfl)]
           go_wp2_with fail
           refine hK.out _ _ (fun h => absurd rfl h) ?_
           clear hK K
           try simp only [Act.put, sA, sB, sC]
           refine wpAnyE_done (by kernel_rfl) ?_ _
           clear hS hS0 hY0 hS6 e6 f6
           go_wp2
           go_roundw
           case rel => exact ⟨k4 + 1, ls ++ [sx], _, _, _, rfl, by omega, by go_num, DN.out.1, DN.out.2.1, DN.out.2.2.1, DN.out.2.2.2, by simp; omega⟩
           case measure => simp [intOf]; omega
        · have hlt4b : ¬ (k4 : Int) < ll.length := by omega
          have DN : Hid _ := dwY
          clear dwY hsl ap4
          go_wp2_with fail
          go_meet
          exact ⟨ls, a4, c4, _, rfl, DN.out, by omega, by omega, by omega⟩
     · have hkb : (kd == 1) = false := by simp [hk1]
       have DN : Hid _ := dS
       clear dS
       go_wp2_with fail
       go_meet
       exact ⟨[], none, 0, p2, rfl, DN.out, by simp, by omega, by omega⟩
    case rest =>
     obtain ⟨ls, a4, c4, p3, rfl, dZ, hls, hp7, hp8⟩ := hcut
     clear dS
     have zX := rZ.only dZ.on (by omega)
     have g0 := dZ.row.cell 0 rfl
     have g1 := dZ.row.cell 1 rfl
     have g2 := dZ.row.cell 2 rfl
     have g3 := dZ.row.cell 3 rfl
     have g4 := dZ.row.cell 4 rfl
     have g5 := dZ.row.cell 5 rfl
     have r0 := zX.cell 0 rfl
     have r1 := zX.cell 1 rfl
     have r2 := zX.cell 2 rfl
     have r3 := zX.cell 3 rfl
     have r4 := zX.cell 4 rfl
     have r5 := zX.cell 5 rfl
     have k0' := zX.frozen 0
     have k1' := zX.frozen 1
     have k2' := zX.frozen 2
     have k3' := zX.frozen 3
     have k4' := zX.frozen 4
     have k5' := zX.frozen 5
     have oc : ∀ v0 v1 v2 v3 v4 v5, Only (fun q => q = w.heap.size + 1) wc ((((((wc.setCell ⟨w.heap.size + 1, 0, none⟩ v0).setCell ⟨w.heap.size + 1, 1, none⟩ v1).setCell ⟨w.heap.size + 1, 2, none⟩ v2).setCell ⟨w.heap.size + 1, 3, none⟩ v3).setCell ⟨w.heap.size + 1, 4, none⟩ v4).setCell ⟨w.heap.size + 1, 5, none⟩ v5) := fun v0 v1 v2 v3 v4 v5 =>
      ((((((Only.refl (fun q => q = w.heap.size + 1) wc).set (b := w.heap.size + 1) rfl 0 v0).set rfl 1 v1).set rfl 2 v2).set rfl 3 v3).set rfl 4 v4).set rfl 5 v5
     have FIN : Hid _ := And.intro dZ (And.intro oc b1)
     clear dZ oc zX
     go_wp2
     refine bodyPost_ret (v := .agg #[.int .i64 s, .int .i64 kd, .slice a2 l.length c2, .slice a3 us.length c3, .slice a4 ls.length c4, .slice a5 lv.length c5])
      (by simp [results, Tryz.results150, go_sem, r0, r1, r2, r3, r4, r5]) rfl ⟨⟨⟨s, kd, l, us, ls, lv⟩, a2, a3, a4, a5, c2, c3, c4, c5, p3, rfl, ?_, FIN.out.1.short, ⟨by show l.length ≤ _; omega, by show us.length ≤ _; omega, by show ls.length ≤ _; omega, by show lv.length ≤ _; omega⟩, by omega, by omega, ?_⟩, ?_⟩
     · exact (FIN.out.1.dr.low (FIN.out.2.1 _ _ _ _ _ _) (fun q hq => by have : q = w.heap.size + 1 := hq; omega)).mono (by omega)
     · exact FIN.out.1.rd.only (FIN.out.2.1 _ _ _ _ _ _) (fun q hq => by have : q = w.heap.size + 1 := hq; omega)
     · exact ((Only.of FIN.out.2.2).trans FIN.out.1.on).next (FIN.out.2.1 _ _ _ _ _ _) (fun q hq hq' => by have : q = w.heap.size + 1 := hq; omega)

end Go.Proofs.YtfmhkicncgccjaaGreat

