/- Joined: BkI2, BkI3, BkI4. -/
import Derived.Test.YtfmhkicncgccjaaGreatFm16
/- What the program's functions answer that look for foes. -/
namespace Go.Proofs.YtfmhkicncgccjaaGreat
open Go.RowKit Go.Sort
set_option linter.unusedSimpArgs false
set_option linter.unusedVariables false

def foeIs (f : Foe) (x y : ByteArray) : Bool := eqS x f.a && eqS y f.b
def hasF (fs : List Foe) (x y : ByteArray) : Bool := anyTo fs.length (fun i => foeIs (gf fs i) x y)

theorem foes_hit (fs : List Foe) (x y : ByteArray) : (hasF fs x y || hasF fs y x) = foesB fs x y := by
 rw [Bool.eq_iff_iff, Bool.or_eq_true]
 unfold hasF foesB
 rw [anyTo_iff, anyTo_iff, anyTo_iff]
 have key : ∀ f : Foe, foeHit f x y = (foeIs f x y || foeIs f y x) := by
  intro f
  unfold foeHit foeIs
  rw [eqS_comm f.a x, eqS_comm f.b y, eqS_comm f.a y, eqS_comm f.b x]
 constructor
 · rintro (⟨i, hi, h⟩ | ⟨i, hi, h⟩)
   · exact ⟨i, hi, by rw [key, h]; rfl⟩
   · exact ⟨i, hi, by rw [key, h]; simp⟩
 · rintro ⟨i, hi, h⟩
   rw [key, Bool.or_eq_true] at h
   rcases h with h | h
   · exact Or.inl ⟨i, hi, h⟩
   · exact Or.inr ⟨i, hi, h⟩

set_option maxHeartbeats 1000000 in
theorem indexF_any (a : Option Addr) (cap : Nat) (fs : List Foe) (x y : ByteArray) (w : World) (hm : FoesAt w a fs) (hl : fs.length ≤ maxLen) :
 Calls Tryz.prog 170 #[.slice a fs.length cap, .agg #[.string x, .string y]] w fun e w' => (∃ r : Int, e = .returned (.int .i64 r) ∧ decide (0 ≤ r) = hasF fs x y) ∧ Below w.heap.size w w' := by
 unfold maxLen at hl
 go_enter Tryz.func170, Tryz.ntmps170
 go_wp2
 go_loopw [5, 8] (fun _ i wr => ∃ (k : Nat), k ≤ fs.length ∧ i = .int .i64 k ∧ allTo k (fun i => !(foeIs (gf fs i) x y)) = true ∧ Below (w.alloc (.cells #[.string x, .string y] 70)).heap.size (w.alloc (.cells #[.string x, .string y] 70)) wr) (fun _ i _ => fs.length - (intOf i).toNat)
 case atStart => exact ⟨0, Nat.zero_le _, rfl, rfl, Below.refl _ _⟩
 case round wr =>
  obtain ⟨k, hk, rfl, hall, hbel⟩ := hrel
  have hbw := below_over hbel
  have row := (Row.new w 70 [.string x, .string y]).later hbel
  have y0 := row.cell 0 rfl
  have y1 := row.cell 1 rfl
  by_cases hlt : k < fs.length
  · obtain ⟨b, o, ha, hb, hc0, hc1⟩ := (hm.later hbw).at hlt
    subst ha
    have hlt2 : (k : Int) < fs.length := by omega
    cases h1 : eqS x (gf fs k).a with
    | false =>
     have h1' : (x.toList == (gf fs k).a.toList) = false := h1
     have hq : foeIs (gf fs k) x y = false := by simp [foeIs, h1]
     have HQ : Hid (foeIs (gf fs k) x y = false) := hq
     clear hq
     go_wp2
     go_quiet (fail)
     go_wp2
     go_roundw
     case rel => exact ⟨k + 1, by omega, by go_num, allTo_succ hall (by rw [HQ.out]; rfl), below_drewN hbel _⟩
     case measure => simp [intOf]; omega
    | true =>
     have h1' : (x.toList == (gf fs k).a.toList) = true := h1
     cases h2 : eqS y (gf fs k).b with
     | false =>
      have h2' : (y.toList == (gf fs k).b.toList) = false := h2
      have hq : foeIs (gf fs k) x y = false := by simp [foeIs, h2]
      have HQ : Hid (foeIs (gf fs k) x y = false) := hq
      clear hq
      go_wp2
      go_quiet (fail)
      go_wp2
      go_roundw
      case rel => exact ⟨k + 1, by omega, by go_num, allTo_succ hall (by rw [HQ.out]; rfl), below_drewN hbel _⟩
      case measure => simp [intOf]; omega
     | true =>
      have h2' : (y.toList == (gf fs k).b.toList) = true := h2
      have hq : foeIs (gf fs k) x y = true := by simp [foeIs, h1, h2]
      have HQ : Hid (foeIs (gf fs k) x y = true) := hq
      clear hq
      go_wp2
      go_quiet (fail)
      go_wp2
      go_ret
      exact ⟨⟨k, rfl, by rw [show hasF fs x y = true from anyTo_true k hlt HQ.out]; simp⟩, below_over (below_drewN hbel _)⟩
  · go_wp2
    go_ret
    have : k = fs.length := by omega
    subst this
    exact ⟨⟨-1, rfl, by rw [show hasF fs x y = false from anyTo_none hall]; rfl⟩, hbw⟩

set_option maxHeartbeats 1000000 in
theorem containsF_any (a : Option Addr) (cap : Nat) (fs : List Foe) (x y : ByteArray) (w : World) (hm : FoesAt w a fs) (hl : fs.length ≤ maxLen) :
 Calls Tryz.prog 157 #[.slice a fs.length cap, .agg #[.string x, .string y]] w fun e w' => e = .returned (.bool (hasF fs x y)) ∧ Below w.heap.size w w' := by
 have b0 : Below w.heap.size w (w.alloc (.cells #[.string x, .string y] 70)) := (Below.refl _ _).alloc (Nat.le_refl _) _
 go_enter Tryz.func157, Tryz.ntmps157
 go_wp2_with fail
 refine (indexF_any a cap fs x y _ (hm.later b0) hl).mono ?_
 rintro e w1 ⟨⟨r, rfl, hr⟩, hb⟩
 go_wp2
 go_ret
 exact ⟨ret_bool (by first | exact hr | rfl), b0.trans (hb.mono b0.size)⟩

set_option maxHeartbeats 1000000 in
theorem areFoes_any (a : Option Addr) (cap : Nat) (fs : List Foe) (x y : ByteArray) (w : World) (hm : FoesAt w a fs) (hl : fs.length ≤ maxLen) :
 Calls Tryz.prog 135 #[.slice a fs.length cap, .string x, .string y] w fun e w' => e = .returned (.bool (foesB fs x y)) ∧ Below w.heap.size w w' := by
 rw [← foes_hit]
 go_enter Tryz.func135, Tryz.ntmps135
 go_wp2_with fail
 refine (containsF_any a cap fs x y _ hm hl).mono ?_
 rintro e w1 ⟨rfl, hb⟩
 cases h1 : hasF fs x y with
 | true =>
  go_wp2
  go_ret
  exact ⟨ret_bool (by rw [h1]; rfl), hb⟩
 | false =>
 go_wp2_with fail
 refine (containsF_any a cap fs y x _ (hm.later hb) hl).mono ?_
 rintro e w2 ⟨rfl, hb2⟩
 go_wp2
 go_ret
 exact ⟨ret_bool (by simp [h1]), hb.trans (hb2.mono hb.size)⟩

set_option maxHeartbeats 1000000 in
theorem mayOk1_any (bb : Nat) (a : Option Addr) (cap : Nat) (fs : List Foe) (x y : ByteArray) (w : World) (hc : w.cell? ⟨bb, 0, none⟩ = some (.slice a fs.length cap)) (hm : FoesAt w a fs) (hl : fs.length ≤ maxLen) :
 Calls Tryz.prog 134 #[.string x, .string y, .pointer (some ⟨bb, 0, none⟩)] w fun e w' => e = .returned (.bool (!foesB fs x y)) ∧ Below w.heap.size w w' := by
 go_enter Tryz.func134, Tryz.ntmps134
 go_wp2_with fail
 refine (areFoes_any a cap fs x y _ hm hl).mono ?_
 rintro e w1 ⟨rfl, hb⟩
 go_wp2
 go_ret
 exact ⟨ret_bool rfl, hb⟩

end Go.Proofs.YtfmhkicncgccjaaGreat

/- What the program's everyPair and mayOk answer. -/
namespace Go.Proofs.YtfmhkicncgccjaaGreat
open Go.RowKit Go.Sort
set_option linter.unusedSimpArgs false
set_option linter.unusedVariables false

/-- No two of a list are foes, the earlier one first. -/
def pairsB (fs : List Foe) (ss : List ByteArray) : Bool := allTo ss.length (fun i => allTo (ss.length - (i + 1)) (fun j => !foesB fs (gs ss i) (gs ss (i + 1 + j))))

theorem StrsAt.drop {w : World} {b o : Nat} {ss : List ByteArray} (h : StrsAt w (some ⟨b, o, none⟩) ss) {k j : Nat} (hj : k + j < ss.length) :
 b < w.heap.size ∧ w.cell? ⟨b, o + k + j, none⟩ = some (.string (gs ss (k + j))) := by
 obtain ⟨b', o', ha, hb, hc⟩ := h.at hj
 simp only [Option.some.injEq, Addr.mk.injEq, and_true] at ha
 obtain ⟨rfl, rfl⟩ := ha
 exact ⟨hb, by rw [Nat.add_assoc]; exact hc⟩

set_option maxHeartbeats 1000000 in
theorem everyPair_any (bb : Nat) (af : Option Addr) (cf : Nat) (fs : List Foe) (a : Option Addr) (cap : Nat) (ss : List ByteArray) (w : World) (hcell : w.cell? ⟨bb, 0, none⟩ = some (.slice af fs.length cf)) (hm : FoesAt w af fs) (hl : fs.length ≤ maxLen)
 (hs : StrsAt w a ss) (hls : ss.length ≤ maxLen) (hcap : ss.length ≤ cap) :
 Calls Tryz.prog 133 #[.slice a ss.length cap, .func (.func 134) #[] #[.pointer (some ⟨bb, 0, none⟩)]] w fun e w' => e = .returned (.bool (pairsB fs ss)) ∧ Below w.heap.size w w' := by
 have hls' := hls
 unfold maxLen at hls'
 go_enter Tryz.func133, Tryz.ntmps133
 go_wp2
 go_loopw [5, 6, 8, 11] (fun _ _ _ i wr => ∃ (k : Nat), k ≤ ss.length ∧ i = .int .i64 k ∧ allTo k (fun i => allTo (ss.length - (i + 1)) (fun j => !foesB fs (gs ss i) (gs ss (i + 1 + j)))) = true ∧ Below w.heap.size w wr) (fun _ _ _ i _ => ss.length - (intOf i).toNat)
 case atStart => exact ⟨0, Nat.zero_le _, rfl, rfl, Below.refl _ _⟩
 case round wr =>
  obtain ⟨k, hk, rfl, hall, hbel⟩ := hrel
  by_cases hlt : k < ss.length
  · obtain ⟨b, o, ha, hb, hc⟩ := (hs.later hbel).at hlt
    subst ha
    go_wp2
    all_goals try (have hce : cap = k + 1 := (by assumption); subst hce)
    all_goals
     go_loopw [8, 21] (fun _ i wv => ∃ (j : Nat) (w2 : World), w2 = wv ∧ j ≤ ss.length - (k + 1) ∧ i = .int .i64 j ∧ allTo j (fun j => !foesB fs (gs ss k) (gs ss (k + 1 + j))) = true ∧ Below wr.heap.size wr w2) (fun _ i _ => (ss.length - (k + 1)) - (intOf i).toNat)
     case atStart => exact ⟨0, _, rfl, Nat.zero_le _, rfl, rfl, Below.refl _ _⟩
     case round =>
      obtain ⟨j, w2, rfl, hj, rfl, hallj, hb2⟩ := hrel
      have hbw2 := hbel.trans (hb2.mono hbel.size)
      by_cases hj2 : j < ss.length - (k + 1)
      · first
         | (exfalso; omega)
         | (obtain ⟨hbj, hcj⟩ := (hs.later hbw2).drop (k := k + 1) (j := j) (by omega)
            have hpc := cell_later hbw2 hcell
            have hj3 : (j : Int) < ((ss.length - (k + 1) : Nat) : Int) := by omega
            go_wp2_with fail
            refine (mayOk1_any bb af cf fs (gs ss k) (gs ss (k + 1 + j)) _ hpc (hm.later hbw2) hl).mono ?_
            rintro e w3 ⟨rfl, hb3⟩
            have hb4 := hb2.trans (hb3.mono hb2.size)
            cases hq : foesB fs (gs ss k) (gs ss (k + 1 + j)) with
            | true =>
             go_wp2
             go_ret
             refine ⟨ret_bool ?_, hbel.trans (hb4.mono hbel.size)⟩
             exact (allTo_false k hlt (allTo_false j hj2 (by rw [hq]; rfl))).symm
            | false =>
             go_wp2
             go_roundw
             case rel => exact ⟨j + 1, _, rfl, by omega, by go_num, allTo_succ hallj (by rw [hq]; rfl), hb4⟩
             case measure => simp [intOf]; omega)
      · have hjj : j = ss.length - (k + 1) := by omega
        have hin : allTo (ss.length - (k + 1)) (fun j => !foesB fs (gs ss k) (gs ss (k + 1 + j))) = true := by rw [← hjj]; exact hallj
        have HI : Hid (allTo (ss.length - (k + 1)) (fun j => !foesB fs (gs ss k) (gs ss (k + 1 + j))) = true) := hin
        clear hin hjj
        go_wp2
        go_roundw
        case rel => exact ⟨k + 1, by omega, by go_num, allTo_succ hall HI.out, hbw2⟩
        case measure => simp [intOf]; omega
  · go_wp2
    go_ret
    have : k = ss.length := by omega
    subst this
    exact ⟨ret_bool hall.symm, hbel⟩

set_option maxHeartbeats 1000000 in
theorem mayOk_any (af : Option Addr) (cf : Nat) (fs : List Foe) (a : Option Addr) (cap : Nat) (ss : List ByteArray) (w : World) (hm : FoesAt w af fs) (hl : fs.length ≤ maxLen) (hs : StrsAt w a ss) (hf : Fit ss) (hcap : ss.length ≤ cap) :
 Calls Tryz.prog 96 #[.slice af fs.length cf, .slice a ss.length cap] w fun e w' => e = .returned (.bool (namesB ss 8 && pairsB fs ss)) ∧ Below w.heap.size w w' := by
 have b0 : Below w.heap.size w (w.alloc (.cells #[.slice af fs.length cf] 23)) := (Below.refl _ _).alloc (Nat.le_refl _) _
 have i0 := Row.new w 23 [.slice af fs.length cf]
 go_enter Tryz.func96, Tryz.ntmps96
 go_wp2_with fail
 refine (namesOk_any a cap ss 8 _ (hs.later b0) hf).mono ?_
 rintro e w1 ⟨rfl, hb⟩
 have b1 := b0.trans (hb.mono b0.size)
 have i1 := i0.later hb
 cases h1 : namesB ss 8 with
 | false =>
  go_wp2
  go_ret
  exact ⟨ret_bool (by rw [h1]; rfl), b1⟩
 | true =>
 go_wp2_with fail
 refine (everyPair_any w.heap.size af cf fs a cap ss _ (i1.cell 0 rfl) (hm.later b1) hl (hs.later b1) hf.1 hcap).mono ?_
 rintro e w2 ⟨rfl, hb2⟩
 go_wp2
 go_ret
 exact ⟨ret_bool (by simp [h1]), b1.trans (hb2.mono b1.size)⟩

end Go.Proofs.YtfmhkicncgccjaaGreat

/- What the program's spotsOk and valvesOk answer. -/
namespace Go.Proofs.YtfmhkicncgccjaaGreat
open Go.RowKit Go.Sort
set_option linter.unusedSimpArgs false
set_option linter.unusedVariables false

def levelsB (s : Spot) : Bool := inB s.cap 0 1000 && decide (0 ≤ s.least) && decide (s.least ≤ s.most) && decide (s.most ≤ s.cap)

set_option maxHeartbeats 1000000 in
theorem levelsOk_any (s : Spot) (m : Option Addr) (c : Nat) (w : World) :
 Calls Tryz.prog 95 #[spotV s m c] w fun e w' => e = .returned (.bool (levelsB s)) ∧ Below w.heap.size w w' := by
 unfold spotV
 have b0 : Below w.heap.size w (w.alloc (.cells #[.string s.name, .int .i64 s.cap, .int .i64 s.least, .int .i64 s.most, .slice m s.may.length c] 72)) := (Below.refl _ _).alloc (Nat.le_refl _) _
 go_enter Tryz.func95, Tryz.ntmps95
 go_wp2_with fail
 refine (within_any _ _ _ _).mono ?_
 rintro e w' ⟨rfl, rfl⟩
 cases h1 : inB s.cap 0 1000 with
 | false =>
  go_wp2
  go_ret
  exact ⟨ret_bool (by simp [levelsB, h1]), b0⟩
 | true =>
  go_wp2
  all_goals go_ret
  all_goals refine ⟨ret_bool ?_, b0⟩
  all_goals (rw [Bool.eq_iff_iff]; simp [levelsB, h1]; try omega)

set_option maxHeartbeats 400000 in
theorem spotsOk1_any (s t : Spot) (m m' : Option Addr) (c c' : Nat) (w : World) :
 Calls Tryz.prog 98 #[spotV s m c, spotV t m' c'] w fun e w' => e = .returned (.bool (ltS s.name t.name)) ∧ Below w.heap.size w w' := by
 unfold spotV
 go_enter Tryz.func98, Tryz.ntmps98
 go_wp2
 go_ret
 exact ⟨rfl, ((Below.refl _ _).alloc (Nat.le_refl _) _).alloc (by simp) _⟩

def ascSB (fs : List Spot) : Bool := allTo fs.length (fun k => k == 0 || ltS (gp fs (k - 1)).name (gp fs k).name)

set_option maxHeartbeats 1000000 in
theorem ascendingS_any (a : Option Addr) (cap : Nat) (us : List Spot) (w : World) (hm : SpotsAt w a us) (hl : us.length ≤ maxLen) :
 Calls Tryz.prog 97 #[.slice a us.length cap, .func (.func 98) #[] #[]] w fun e w' => e = .returned (.bool (ascSB us)) ∧ Below w.heap.size w w' := by
 unfold maxLen at hl
 go_enter Tryz.func97, Tryz.ntmps97
 go_wp2
 go_loopw [5] (fun i wr => ∃ (k : Nat), (k ≤ us.length ∨ k = 1) ∧ 1 ≤ k ∧ i = .int .i64 k ∧ allTo k (fun k => k == 0 || ltS (gp us (k - 1)).name (gp us k).name) = true ∧ Below w.heap.size w wr) (fun i _ => us.length - (intOf i).toNat)
 case atStart => exact ⟨1, Or.inr rfl, Nat.le_refl _, rfl, rfl, Below.refl _ _⟩
 case round wr =>
  obtain ⟨k, hk, hk1, rfl, hall, hbel⟩ := hrel
  by_cases hlt : k < us.length
  · obtain ⟨j, rfl⟩ : ∃ j, k = j + 1 := ⟨k - 1, by omega⟩
    obtain ⟨b, o, m1, c1, ha, hb, hc0, hc1, hc2, hc3, hc4, -⟩ := (hm.later hbel).at hlt
    obtain ⟨b', o', m2, c2, ha', hb', hd0, hd1, hd2, hd3, hd4, -⟩ := (hm.later hbel).at (k := j) (by omega)
    subst ha
    simp only [Option.some.injEq, Addr.mk.injEq, and_true] at ha'
    obtain ⟨rfl, rfl⟩ := ha'
    have r0 := cell_regrown hc0
    have r1 := cell_regrown hc1
    have r2 := cell_regrown hc2
    have r3 := cell_regrown hc3
    have r4 := cell_regrown hc4
    have s0 := cell_regrown hd0
    have s1 := cell_regrown hd1
    have s2 := cell_regrown hd2
    have s3 := cell_regrown hd3
    have s4 := cell_regrown hd4
    have hcall := fun d os => Calls.regrown_of (w := wr) (spotsOk1_any (gp us j) (gp us (j + 1)) m2 m1 c2 c1 (grow (redrawn wr d) os))
    unfold spotV at hcall
    have hwrap : IntKind.i64.wrap (j : Int) = j := by rw [IntKind.wrap_i64]; omega
    have hj1 : (j : Int) < us.length := by omega
    have hj2 : (j : Int) + 1 < us.length := by omega
    have hj3 : (0 : Int) ≤ (j : Int) + 1 := by omega
    have hj4 : ((j : Int) + 1).toNat = j + 1 := by omega
    clear hc0 hc1 hc2 hc3 hc4 hd0 hd1 hd2 hd3 hd4
    go_wp2
    refine wp_region_quiet_below (by kernel_rfl) (by kernel_rfl) ?_
    repeat (quiet_step (with_reducible exact hcall _ _))
    refine wpQuiet_nil ?_
    intro w1 hw'
    obtain ⟨⟨dq, osq⟩, hw''⟩ := hw'
    have hbel1 : Below w.heap.size w w1 := hbel.trans ((hw'' ▸ below_regrown wr dq osq).mono hbel.size)
    clear hw'' hcall r0 r1 r2 r3 r4 s0 s1 s2 s3 s4
    cases hq : ltS (gp us j).name (gp us (j + 1)).name with
    | true =>
     go_wp2
     go_roundw
     case rel => exact ⟨j + 1 + 1, by omega, by omega, by go_num, allTo_succ hall (by simp [hq]), hbel1⟩
     case measure => simp [intOf]; omega
    | false =>
     go_wp2
     go_ret
     exact ⟨ret_bool (allTo_false (j + 1) hlt (by simp [hq])).symm, hbel1⟩
  · go_wp2
    go_ret
    refine ⟨ret_bool ?_, hbel⟩
    refine (allTo_iff.2 fun i hi => ?_).symm
    exact allTo_iff.1 hall i (by omega)

/-- A spot by itself, as the program asks. -/
def spotAtI' (fs : List Foe) (s : Spot) : Bool := nameB s.name && levelsB s && (namesB s.may 8 && pairsB fs s.may)

set_option maxRecDepth 100000 in
set_option maxHeartbeats 2000000 in
theorem spotsOk_any (x : Book) (af ap av aq : Option Addr) (cf cp cv cq : Nat) (w : World) (hmf : FoesAt w af x.foes) (hlf : x.foes.length ≤ maxLen) (hm : SpotsAt w ap x.spots) (hf : SpotsFit x.spots) :
 Calls Tryz.prog 53 #[bookV x af ap av aq cf cp cv cq] w fun e w' => e = .returned (.bool (decide ((x.spots.length : Int) ≤ 8) && allTo x.spots.length (fun k => spotAtI' x.foes (gp x.spots k)) && ascSB x.spots)) ∧ Below w.heap.size w w' := by
 have hl := hf.len
 unfold maxLen at hl
 unfold bookV
 by_cases hmany : 8 < (x.spots.length : Int)
 · go_enter Tryz.func53, Tryz.ntmps53
   go_wp2
   go_ret
   exact ⟨ret_bool (by rw [decide_eq_false (by omega)]; rfl), (Below.refl _ _).alloc (Nat.le_refl _) _⟩
 · go_enter Tryz.func53, Tryz.ntmps53
   go_wp2
   go_loopw [4, 12] (fun _ i wr => ∃ (k : Nat), k ≤ x.spots.length ∧ i = .int .i64 k ∧ allTo k (fun k => spotAtI' x.foes (gp x.spots k)) = true ∧ Below (w.alloc (.cells (bookL x af ap av aq cf cp cv cq).toArray 28)).heap.size (w.alloc (.cells (bookL x af ap av aq cf cp cv cq).toArray 28)) wr) (fun _ i _ => x.spots.length - (intOf i).toNat)
   case atStart => exact ⟨0, Nat.zero_le _, rfl, rfl, Below.refl _ _⟩
   case round wr =>
    obtain ⟨k, hk, rfl, hall, hbel⟩ := hrel
    have hbw := below_over hbel
    have bk := bookRow hbel
    by_cases hlt : k < x.spots.length
    · obtain ⟨b, o, m, c, ha, hb, hc0, hc1, hc2, hc3, hc4, hst, hcc⟩ := (hm.later hbw).atCap hlt
      have hsz := hf.names _ (gp_mem hlt)
      have hba : Below wr.heap.size wr (wr.alloc (.cells #[.string (gp x.spots k).name, .int .i64 (gp x.spots k).cap, .int .i64 (gp x.spots k).least, .int .i64 (gp x.spots k).most, .slice m (gp x.spots k).may.length c] 72)) := (Below.refl _ _).alloc (Nat.le_refl _) _
      have frow := Row.new wr 72 [.string (gp x.spots k).name, .int .i64 (gp x.spots k).cap, .int .i64 (gp x.spots k).least, .int .i64 (gp x.spots k).most, .slice m (gp x.spots k).may.length c]
      have hbela := hbel.trans (hba.mono hbel.size)
      have bka := bk.later hba
      have hsta := hst.later hba
      subst ha
      go_wp2_with fail
      refine (nameOk_any (gp x.spots k).name _ hsz.1).mono ?_
      rintro e w1 ⟨rfl, hb1⟩
      have row1 := frow.later hb1
      have bk1 := bka.later hb1
      have hst1 := hsta.later hb1
      have hbel1 := hbela.trans (hb1.mono hbela.size)
      clear hc0 hc1 hc2 hc3 hc4 hba frow hbela bka hsta hb1
      cases hq1 : nameB (gp x.spots k).name with
      | false =>
       go_wp2
       go_ret
       exact ⟨ret_bool (by rw [allTo_false k hlt (by simp [spotAtI', hq1])]; simp), below_over hbel1⟩
      | true =>
      have f0 := row1.cell 0 rfl
      have f1 := row1.cell 1 rfl
      have f2 := row1.cell 2 rfl
      have f3 := row1.cell 3 rfl
      have f4 := row1.cell 4 rfl
      go_wp2_with fail
      refine (levelsOk_any (gp x.spots k) m c _).mono ?_
      rintro e w2 ⟨rfl, hb2⟩
      have f5 := cell_later hb2 f4
      have bk2 := bk1.later hb2
      have hst2 := hst1.later hb2
      have hbel2 := hbel1.trans (hb2.mono hbel1.size)
      clear f0 f1 f2 f3 f4 row1 bk1 hst1 hb2
      cases hq2 : levelsB (gp x.spots k) with
      | false =>
       go_wp2
       go_ret
       exact ⟨ret_bool (by rw [allTo_false k hlt (by simp [spotAtI', hq2])]; simp), below_over hbel2⟩
      | true =>
      have g0 := bk2.cell 0 rfl
      go_wp2_with fail
      refine (mayOk_any af cf x.foes m c (gp x.spots k).may _ (hmf.later (below_over hbel2)) hlf hst2 hsz.2 hcc).mono ?_
      rintro e w3 ⟨rfl, hb3⟩
      have hbel3 := hbel2.trans (hb3.mono hbel2.size)
      cases hq3 : (namesB (gp x.spots k).may 8 && pairsB x.foes (gp x.spots k).may) with
      | false =>
       go_wp2
       go_ret
       exact ⟨ret_bool (by rw [allTo_false k hlt (by unfold spotAtI'; rw [hq3, Bool.and_false])]; simp), below_over hbel3⟩
      | true =>
       go_wp2
       go_roundw
       case rel => exact ⟨k + 1, by omega, by go_num, allTo_succ hall (by unfold spotAtI'; rw [hq1, hq2, hq3]; rfl), hbel3⟩
       case measure => simp [intOf]; omega
    · have : k = x.spots.length := by omega
      subst this
      have y1 := bk.cell 1 rfl
      go_wp2_with fail
      refine (ascendingS_any ap cp x.spots _ (hm.later hbw) hf.len).mono ?_
      rintro e w1 ⟨rfl, hb1⟩
      go_wp2
      go_ret
      exact ⟨ret_bool (by rw [hall, decide_eq_true (by omega)]; rfl), hbw.trans (hb1.mono hbw.size)⟩

set_option maxHeartbeats 1000000 in
theorem valvesOk_any (x : Book) (af ap av aq : Option Addr) (cf cp cv cq : Nat) (w : World) (hv : StrsAt w av x.valves) (hf : Fit x.valves) :
 Calls Tryz.prog 54 #[bookV x af ap av aq cf cp cv cq] w fun e w' => e = .returned (.bool (namesB x.valves 12 && inB x.seen 0 1000000)) ∧ Below w.heap.size w w' := by
 unfold bookV
 have b0 : Below w.heap.size w (w.alloc (.cells #[.slice af x.foes.length cf, .slice ap x.spots.length cp, .slice av x.valves.length cv, .slice aq x.parts.length cq, .int .i64 x.seen] 28)) := (Below.refl _ _).alloc (Nat.le_refl _) _
 have i0 := Row.new w 28 (bookL x af ap av aq cf cp cv cq)
 go_enter Tryz.func54, Tryz.ntmps54
 go_wp2_with fail
 refine (namesOk_any av cv x.valves 12 _ (hv.later b0) hf).mono ?_
 rintro e w1 ⟨rfl, hb⟩
 have y4 := (i0.later hb).cell 4 rfl
 cases h1 : namesB x.valves 12 with
 | false =>
  go_wp2
  go_ret
  exact ⟨ret_bool (by rw [h1]; rfl), b0.trans (hb.mono b0.size)⟩
 | true =>
 go_wp2_with fail
 refine (within_any _ _ _ _).mono ?_
 rintro e w' ⟨rfl, rfl⟩
 go_wp2
 go_ret
 exact ⟨ret_bool (by simp [h1]), b0.trans (hb.mono b0.size)⟩

end Go.Proofs.YtfmhkicncgccjaaGreat

