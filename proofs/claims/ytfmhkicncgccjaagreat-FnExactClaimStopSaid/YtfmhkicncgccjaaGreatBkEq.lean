/- What the law's own comparing functions answer of two copies of one book. -/
import Derived.Test.YtfmhkicncgccjaaGreatBkToD
import Derived.Test.YtfmhkicncgccjaaGreatWantEq
namespace Go.Proofs.YtfmhkicncgccjaaGreat
open Go.RowKit Go.Sort
set_option linter.unusedSimpArgs false
set_option linter.unusedVariables false

set_option maxHeartbeats 400000 in
theorem eqClaimFoe_any (u : Foe) (w : World) :
    Calls Tryz.prog 110 #[foeV u, foeV u] w fun e w' => e = .returned (.bool true) ∧ Below w.heap.size w w' := by
  unfold foeV
  have h1 : (u.a.toList == u.a.toList) = true := by simp
  have h2 : (u.b.toList == u.b.toList) = true := by simp
  go_enter Tryz.func110, Tryz.ntmps110
  go_wp2
  go_ret
  exact ⟨rfl, ((Below.refl _ _).alloc (Nat.le_refl _) _).alloc (by simp) _⟩

set_option maxHeartbeats 800000 in
theorem eqClaimSpot_any (s : Spot) (m m' : Option Addr) (c c' : Nat) (w : World) (h : StrsAt w m s.may) (h' : StrsAt w m' s.may) (hl : s.may.length ≤ maxLen) :
    Calls Tryz.prog 111 #[spotV s m c, spotV s m' c'] w fun e w' => e = .returned (.bool true) ∧ Below w.heap.size w w' := by
  unfold spotV
  have h1 : (s.name.toList == s.name.toList) = true := by simp
  have h2 : (s.cap != s.cap) = false := by simp
  have h3 : (s.least != s.least) = false := by simp
  have h4 : (s.most != s.most) = false := by simp
  have b0 : Below w.heap.size w ((w.alloc (.cells #[.string s.name, .int .i64 s.cap, .int .i64 s.least, .int .i64 s.most, .slice m s.may.length c] 72)).alloc (.cells #[.string s.name, .int .i64 s.cap, .int .i64 s.least, .int .i64 s.most, .slice m' s.may.length c'] 72)) :=
    ((Below.refl _ _).alloc (Nat.le_refl _) _).alloc (by simp) _
  go_enter Tryz.func111, Tryz.ntmps111
  go_wp2_with fail
  refine (eqStringS_any m m' c c' s.may s.may _ (h.later b0) (h'.later b0) hl).mono ?_
  rintro e w1 ⟨rfl, hb⟩
  rw [eqSS_self]
  go_wp2
  go_ret
  exact ⟨rfl, b0.trans (hb.mono b0.size)⟩

set_option maxHeartbeats 800000 in
theorem eqClaimPart_any (p : Part) (a2 a3 a4 a5 : Option Addr) (c2 c3 c4 c5 : Nat) (e2 e3 e4 e5 : Option Addr) (d2 d3 d4 d5 : Nat) (w : World) (hin : WantIn w p.want a2 a3 a4 a5) (hie : WantIn w p.want e2 e3 e4 e5) (hf : WantFit p.want) :
    Calls Tryz.prog 112 #[partV p a2 a3 a4 a5 c2 c3 c4 c5, partV p e2 e3 e4 e5 d2 d3 d4 d5] w fun e w' => e = .returned (.bool true) ∧ Below w.heap.size w w' := by
  unfold partV
  have h1 : (p.stopped != p.stopped) = false := by simp
  have b0 : Below w.heap.size w ((w.alloc (.cells #[.int .i64 p.want.number, .int .i64 p.want.kind, .slice a2 p.want.stuffs.length c2, .slice a3 p.want.uses.length c3, .slice a4 p.want.opens.length c4, .slice a5 p.want.shuts.length c5, .bool p.stopped] 61)).alloc (.cells #[.int .i64 p.want.number, .int .i64 p.want.kind, .slice e2 p.want.stuffs.length d2, .slice e3 p.want.uses.length d3, .slice e4 p.want.opens.length d4, .slice e5 p.want.shuts.length d5, .bool p.stopped] 61)) :=
    ((Below.refl _ _).alloc (Nat.le_refl _) _).alloc (by simp) _
  have i0 := (Row.new w 61 [.int .i64 p.want.number, .int .i64 p.want.kind, .slice a2 p.want.stuffs.length c2, .slice a3 p.want.uses.length c3, .slice a4 p.want.opens.length c4, .slice a5 p.want.shuts.length c5, .bool p.stopped]).alloc (.cells #[.int .i64 p.want.number, .int .i64 p.want.kind, .slice e2 p.want.stuffs.length d2, .slice e3 p.want.uses.length d3, .slice e4 p.want.opens.length d4, .slice e5 p.want.shuts.length d5, .bool p.stopped] 61)
  have o0 := Row.new (w.alloc (.cells #[.int .i64 p.want.number, .int .i64 p.want.kind, .slice a2 p.want.stuffs.length c2, .slice a3 p.want.uses.length c3, .slice a4 p.want.opens.length c4, .slice a5 p.want.shuts.length c5, .bool p.stopped] 61)) 61 [.int .i64 p.want.number, .int .i64 p.want.kind, .slice e2 p.want.stuffs.length d2, .slice e3 p.want.uses.length d3, .slice e4 p.want.opens.length d4, .slice e5 p.want.shuts.length d5, .bool p.stopped]
  have hsz : (w.alloc (.cells #[.int .i64 p.want.number, .int .i64 p.want.kind, .slice a2 p.want.stuffs.length c2, .slice a3 p.want.uses.length c3, .slice a4 p.want.opens.length c4, .slice a5 p.want.shuts.length c5, .bool p.stopped] 61)).heap.size = w.heap.size + 1 := by simp
  rw [hsz] at o0
  clear hsz
  go_enter Tryz.func112, Tryz.ntmps112
  go_wp2_with fail
  refine (eqClaimWant_any p.want a2 a3 a4 a5 c2 c3 c4 c5 e2 e3 e4 e5 d2 d3 d4 d5 _ (hin.later b0) (hie.later b0) hf).mono ?_
  rintro e w1 ⟨rfl, hb⟩
  have q6 := (i0.later hb).cell 6 rfl
  have r6 := (o0.later hb).cell 6 rfl
  clear i0 o0
  go_wp2
  go_ret
  exact ⟨rfl, b0.trans (hb.mono b0.size)⟩

set_option maxHeartbeats 1000000 in
theorem eqClaimFoeS_any (a b : Option Addr) (ca cb : Nat) (xs : List Foe) (w : World) (hx : FoesAt w a xs) (hy : FoesAt w b xs) (hf : FoesFit xs) :
    Calls Tryz.prog 58 #[.slice a xs.length ca, .slice b xs.length cb] w fun e w' => e = .returned (.bool true) ∧ Below w.heap.size w w' := by
  have lx := hf.len
  unfold maxLen at lx
  have hl1 : ((xs.length : Int) != (xs.length : Int)) = false := by simp
  go_enter Tryz.func58, Tryz.ntmps58
  go_wp2
  go_loopw [5] (fun i wr => ∃ (k : Nat), k ≤ xs.length ∧ i = .int .i64 k ∧ Below w.heap.size w wr) (fun i _ => xs.length - (intOf i).toNat)
  case atStart => exact ⟨0, Nat.zero_le _, rfl, Below.refl _ _⟩
  case round wr =>
    obtain ⟨k, hk, rfl, hbel⟩ := hrel
    clear hl1
    by_cases hlt : k < xs.length
    · obtain ⟨b1, o1, ha1, hb1, hc0, hc1⟩ := (hx.later hbel).at hlt
      obtain ⟨b2, o2, ha2, hb2, he0, he1⟩ := (hy.later hbel).at hlt
      have hfit := hf.names _ (gf_mem hlt)
      subst ha1 ha2
      have hlt2 : (k : Int) < xs.length := by omega
      have r0 := cell_regrown hc0
      have s0 := cell_regrown he0
      have r1 := cell_regrown hc1
      have s1 := cell_regrown he1
      have hcall := fun d os => Calls.regrown_of (w := wr) (eqClaimFoe_any (gf xs k) (grow (redrawn wr d) os))
      unfold foeV at hcall
      clear hc0 hc1 he0 he1
      go_wp2
      refine wp_region_quiet_below (by kernel_rfl) (by kernel_rfl) ?_
      repeat (quiet_step (exact hcall _ _))
      refine wpQuiet_nil ?_
      intro w1 hw'
      obtain ⟨⟨dq, osq⟩, hw''⟩ := hw'
      have hbel1 : Below w.heap.size w w1 := hbel.trans ((hw'' ▸ below_regrown wr dq osq).mono hbel.size)
      clear hw'' hcall r0 r1 s0 s1
      go_wp2
      go_roundw
      case rel => exact ⟨k + 1, by omega, by go_num, hbel1⟩
      case measure => simp [intOf]; omega
    · go_wp2
      go_ret
      exact ⟨rfl, hbel⟩

set_option maxHeartbeats 1000000 in
theorem eqClaimSpotS_any (a b : Option Addr) (ca cb : Nat) (xs : List Spot) (w : World) (hx : SpotsAt w a xs) (hy : SpotsAt w b xs) (hf : SpotsFit xs) :
    Calls Tryz.prog 59 #[.slice a xs.length ca, .slice b xs.length cb] w fun e w' => e = .returned (.bool true) ∧ Below w.heap.size w w' := by
  have lx := hf.len
  unfold maxLen at lx
  have hl1 : ((xs.length : Int) != (xs.length : Int)) = false := by simp
  go_enter Tryz.func59, Tryz.ntmps59
  go_wp2
  go_loopw [5] (fun i wr => ∃ (k : Nat), k ≤ xs.length ∧ i = .int .i64 k ∧ Below w.heap.size w wr) (fun i _ => xs.length - (intOf i).toNat)
  case atStart => exact ⟨0, Nat.zero_le _, rfl, Below.refl _ _⟩
  case round wr =>
    obtain ⟨k, hk, rfl, hbel⟩ := hrel
    clear hl1
    by_cases hlt : k < xs.length
    · obtain ⟨b1, o1, m1, c1, ha1, hb1, hc0, hc1, hc2, hc3, hc4, hs1⟩ := (hx.later hbel).at hlt
      obtain ⟨b2, o2, m2, c2, ha2, hb2, he0, he1, he2, he3, he4, hs2⟩ := (hy.later hbel).at hlt
      have hfit := hf.names _ (gp_mem hlt)
      subst ha1 ha2
      have hlt2 : (k : Int) < xs.length := by omega
      have r0 := cell_regrown hc0
      have s0 := cell_regrown he0
      have r1 := cell_regrown hc1
      have s1 := cell_regrown he1
      have r2 := cell_regrown hc2
      have s2 := cell_regrown he2
      have r3 := cell_regrown hc3
      have s3 := cell_regrown he3
      have r4 := cell_regrown hc4
      have s4 := cell_regrown he4
      have hcall := fun d os => Calls.regrown_of (w := wr) (eqClaimSpot_any (gp xs k) m1 m2 c1 c2 (grow (redrawn wr d) os) (hs1.later (below_regrown wr d os)) (hs2.later (below_regrown wr d os)) hfit.2.1)
      unfold spotV at hcall
      clear hc0 hc1 hc2 hc3 hc4 he0 he1 he2 he3 he4
      go_wp2
      refine wp_region_quiet_below (by kernel_rfl) (by kernel_rfl) ?_
      repeat (quiet_step (exact hcall _ _))
      refine wpQuiet_nil ?_
      intro w1 hw'
      obtain ⟨⟨dq, osq⟩, hw''⟩ := hw'
      have hbel1 : Below w.heap.size w w1 := hbel.trans ((hw'' ▸ below_regrown wr dq osq).mono hbel.size)
      clear hw'' hcall r0 r1 r2 r3 r4 s0 s1 s2 s3 s4
      go_wp2
      go_roundw
      case rel => exact ⟨k + 1, by omega, by go_num, hbel1⟩
      case measure => simp [intOf]; omega
    · go_wp2
      go_ret
      exact ⟨rfl, hbel⟩

set_option maxHeartbeats 1000000 in
theorem eqClaimPartS_any (a b : Option Addr) (ca cb : Nat) (xs : List Part) (w : World) (hx : PartsAt w a xs) (hy : PartsAt w b xs) (hf : PartsFit xs) :
    Calls Tryz.prog 61 #[.slice a xs.length ca, .slice b xs.length cb] w fun e w' => e = .returned (.bool true) ∧ Below w.heap.size w w' := by
  have lx := hf.len
  unfold maxLen at lx
  have hl1 : ((xs.length : Int) != (xs.length : Int)) = false := by simp
  go_enter Tryz.func61, Tryz.ntmps61
  go_wp2
  go_loopw [5] (fun i wr => ∃ (k : Nat), k ≤ xs.length ∧ i = .int .i64 k ∧ Below w.heap.size w wr) (fun i _ => xs.length - (intOf i).toNat)
  case atStart => exact ⟨0, Nat.zero_le _, rfl, Below.refl _ _⟩
  case round wr =>
    obtain ⟨k, hk, rfl, hbel⟩ := hrel
    clear hl1
    by_cases hlt : k < xs.length
    · obtain ⟨b1, o1, a2, a3, a4, a5, c2, c3, c4, c5, ha1, hb1, hc0, hc1, hc2, hc3, hc4, hc5, hc6, hs1⟩ := (hx.later hbel).at hlt
      obtain ⟨b2, o2, f2, f3, f4, f5, d2, d3, d4, d5, ha2, hb2, he0, he1, he2, he3, he4, he5, he6, hs2⟩ := (hy.later hbel).at hlt
      have hfit := hf.wants _ (gq_mem hlt)
      subst ha1 ha2
      have hlt2 : (k : Int) < xs.length := by omega
      have r0 := cell_regrown hc0
      have s0 := cell_regrown he0
      have r1 := cell_regrown hc1
      have s1 := cell_regrown he1
      have r2 := cell_regrown hc2
      have s2 := cell_regrown he2
      have r3 := cell_regrown hc3
      have s3 := cell_regrown he3
      have r4 := cell_regrown hc4
      have s4 := cell_regrown he4
      have r5 := cell_regrown hc5
      have s5 := cell_regrown he5
      have r6 := cell_regrown hc6
      have s6 := cell_regrown he6
      have hcall := fun d os => Calls.regrown_of (w := wr) (eqClaimPart_any (gq xs k) a2 a3 a4 a5 c2 c3 c4 c5 f2 f3 f4 f5 d2 d3 d4 d5 (grow (redrawn wr d) os) (hs1.later (below_regrown wr d os)) (hs2.later (below_regrown wr d os)) hfit)
      unfold partV at hcall
      clear hc0 hc1 hc2 hc3 hc4 hc5 hc6 he0 he1 he2 he3 he4 he5 he6
      go_wp2
      refine wp_region_quiet_below (by kernel_rfl) (by kernel_rfl) ?_
      repeat (quiet_step (exact hcall _ _))
      refine wpQuiet_nil ?_
      intro w1 hw'
      obtain ⟨⟨dq, osq⟩, hw''⟩ := hw'
      have hbel1 : Below w.heap.size w w1 := hbel.trans ((hw'' ▸ below_regrown wr dq osq).mono hbel.size)
      clear hw'' hcall r0 r1 r2 r3 r4 r5 r6 s0 s1 s2 s3 s4 s5 s6
      go_wp2
      go_roundw
      case rel => exact ⟨k + 1, by omega, by go_num, hbel1⟩
      case measure => simp [intOf]; omega
    · go_wp2
      go_ret
      exact ⟨rfl, hbel⟩

set_option maxHeartbeats 2000000 in
theorem eqClaimBook_any (x : Book) (af ap av aq : Option Addr) (cf cp cv cq : Nat) (ef ep ev eq : Option Addr) (df dp dv dq : Nat) (w : World) (hin : BookIn w x af ap av aq) (hie : BookIn w x ef ep ev eq) (hf : BookFit x) :
    Calls Tryz.prog 22 #[bookV x af ap av aq cf cp cv cq, bookV x ef ep ev eq df dp dv dq] w fun e w' => e = .returned (.bool true) ∧ Below w.heap.size w w' := by
  unfold bookV
  have b0 : Below w.heap.size w ((w.alloc (.cells #[.slice af x.foes.length cf, .slice ap x.spots.length cp, .slice av x.valves.length cv, .slice aq x.parts.length cq, .int .i64 x.seen] 28)).alloc (.cells #[.slice ef x.foes.length df, .slice ep x.spots.length dp, .slice ev x.valves.length dv, .slice eq x.parts.length dq, .int .i64 x.seen] 28)) :=
    ((Below.refl _ _).alloc (Nat.le_refl _) _).alloc (by simp) _
  have i0 := (Row.new w 28 [.slice af x.foes.length cf, .slice ap x.spots.length cp, .slice av x.valves.length cv, .slice aq x.parts.length cq, .int .i64 x.seen]).alloc (.cells #[.slice ef x.foes.length df, .slice ep x.spots.length dp, .slice ev x.valves.length dv, .slice eq x.parts.length dq, .int .i64 x.seen] 28)
  have o0 := Row.new (w.alloc (.cells #[.slice af x.foes.length cf, .slice ap x.spots.length cp, .slice av x.valves.length cv, .slice aq x.parts.length cq, .int .i64 x.seen] 28)) 28 [.slice ef x.foes.length df, .slice ep x.spots.length dp, .slice ev x.valves.length dv, .slice eq x.parts.length dq, .int .i64 x.seen]
  have hsz : (w.alloc (.cells #[.slice af x.foes.length cf, .slice ap x.spots.length cp, .slice av x.valves.length cv, .slice aq x.parts.length cq, .int .i64 x.seen] 28)).heap.size = w.heap.size + 1 := by simp
  rw [hsz] at o0
  clear hsz
  have hn : (x.seen != x.seen) = false := by simp
  go_enter Tryz.func22, Tryz.ntmps22
  go_wp2_with fail
  refine (eqClaimFoeS_any af ef cf df x.foes _ (hin.later b0).foes (hie.later b0).foes hf.foes).mono ?_
  rintro e w1 ⟨rfl, hb⟩
  have b1 := b0.trans (hb.mono b0.size)
  have i1 := i0.later hb
  have o1 := o0.later hb
  clear b0 i0 o0 hb
  have p1 := i1.cell 1 rfl
  have q1 := o1.cell 1 rfl
  go_wp2_with fail
  refine (eqClaimSpotS_any ap ep cp dp x.spots _ (hin.later b1).spots (hie.later b1).spots hf.spots).mono ?_
  rintro e w2 ⟨rfl, hb⟩
  have b2 := b1.trans (hb.mono b1.size)
  have i2 := i1.later hb
  have o2 := o1.later hb
  clear b1 i1 o1 hb p1 q1
  have p2 := i2.cell 2 rfl
  have q2 := o2.cell 2 rfl
  go_wp2_with fail
  refine (eqStringS_any av ev cv dv x.valves x.valves _ (hin.later b2).valves (hie.later b2).valves hf.valves.1).mono ?_
  rintro e w3 ⟨rfl, hb⟩
  rw [eqSS_self]
  have b3 := b2.trans (hb.mono b2.size)
  have i3 := i2.later hb
  have o3 := o2.later hb
  clear b2 i2 o2 hb p2 q2
  have p3 := i3.cell 3 rfl
  have q3 := o3.cell 3 rfl
  go_wp2_with fail
  refine (eqClaimPartS_any aq eq cq dq x.parts _ (hin.later b3).parts (hie.later b3).parts hf.parts).mono ?_
  rintro e w4 ⟨rfl, hb⟩
  have p4 := (i3.later hb).cell 4 rfl
  have q4 := (o3.later hb).cell 4 rfl
  clear i3 o3 p3 q3
  go_wp2
  go_ret
  exact ⟨rfl, b3.trans (hb.mono b3.size)⟩

end Go.Proofs.YtfmhkicncgccjaaGreat
