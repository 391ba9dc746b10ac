/- What the law's own sz functions answer of books. -/
import Derived.Test.YtfmhkicncgccjaaGreatBk
namespace Go.Proofs.YtfmhkicncgccjaaGreat
open Go.RowKit Go.Sort
set_option linter.unusedSimpArgs false
set_option linter.unusedVariables false

set_option maxHeartbeats 400000 in
theorem szClaimFoe_any (f : Foe) (left : Int) (w : World) (h : f.a.size ≤ maxLen ∧ f.b.size ≤ maxLen) (h0 : -1 ≤ left) (h1 : left ≤ 1048576) :
    Calls Tryz.prog 80 #[foeV f, .int .i64 left] w fun e w' => (∃ r : Int, e = .returned (.int .i64 r) ∧ -1 ≤ r ∧ r ≤ left) ∧ Below w.heap.size w w' := by
  obtain ⟨ha, hb⟩ := h
  unfold maxLen at ha hb
  unfold foeV
  go_enter Tryz.func80, Tryz.ntmps80
  go_wp2
  all_goals go_ret
  all_goals exact ⟨⟨_, rfl, by omega, by omega⟩, (Below.refl _ _).alloc (Nat.le_refl _) _⟩

set_option maxHeartbeats 400000 in
theorem szClaimFoeS_any (a : Option Addr) (cap : Nat) (us : List Foe) (left : Int) (w : World) (hm : FoesAt w a us) (hf : FoesFit us) (h0 : -1 ≤ left) (h1 : left ≤ 1048576) :
    Calls Tryz.prog 39 #[.slice a us.length cap, .int .i64 left] w fun e w' => (∃ r : Int, e = .returned (.int .i64 r) ∧ -1 ≤ r ∧ r ≤ left ∧ (0 ≤ r → us.length ≤ 1048576)) ∧ Below w.heap.size w w' := by
  obtain ⟨hl, hs⟩ := hf
  unfold maxLen at hl
  by_cases hneg : left - us.length < 0
  · go_enter Tryz.func39, Tryz.ntmps39
    go_wp2
    go_ret
    exact ⟨⟨-1, rfl, by omega, by omega, by omega⟩, Below.refl _ _⟩
  · go_enter Tryz.func39, Tryz.ntmps39
    go_wp2
    go_loopw [1, 5] (fun t i wr => ∃ (k : Nat) (l : Int), k ≤ us.length ∧ i = .int .i64 k ∧ t = .int .i64 l ∧ 0 ≤ l ∧ l ≤ left ∧ Below w.heap.size w wr) (fun _ i _ => us.length - (intOf i).toNat)
    case atStart => exact ⟨0, _, Nat.zero_le _, rfl, rfl, by omega, by omega, Below.refl _ _⟩
    case round =>
      obtain ⟨k, l, hk, rfl, rfl, hl0, hl1, hbel⟩ := hrel
      by_cases hlt : k < us.length
      · obtain ⟨b, o, ha, hb, hc0, hc1⟩ := (hm.later hbel).at hlt
        have hsz := hs _ (gf_mem hlt)
        clear hs
        generalize gf us k = u at hc0 hc1 hsz
        subst ha
        go_wp2_with (go_at_call 80; refine (szClaimFoe_any u l _ hsz (by omega) (by omega)).mono ?_; rintro e w1 ⟨⟨r, rfl, hr0, hr1⟩, hb1⟩)
        · go_ret
          exact ⟨⟨-1, rfl, by omega, by omega, by omega⟩, hbel.trans (hb1.mono hbel.size)⟩
        · go_roundw
          case rel => exact ⟨k + 1, r, by omega, by go_num, rfl, by omega, by omega, hbel.trans (hb1.mono hbel.size)⟩
          case measure => simp [intOf]; omega
      · go_wp2
        go_ret
        exact ⟨⟨l, rfl, by omega, by omega, by omega⟩, hbel⟩

set_option maxHeartbeats 400000 in
theorem szClaimSpot_any (s : Spot) (m : Option Addr) (c : Nat) (left : Int) (w : World) (hm : StrsAt w m s.may) (h : s.name.size ≤ maxLen ∧ Fit s.may) (h0 : -1 ≤ left) (h1 : left ≤ 1048576) :
    Calls Tryz.prog 81 #[spotV s m c, .int .i64 left] w fun e w' => (∃ r : Int, e = .returned (.int .i64 r) ∧ -1 ≤ r ∧ r ≤ left ∧ (0 ≤ r → s.may.length ≤ 1048576)) ∧ Below w.heap.size w w' := by
  obtain ⟨ha, hb⟩ := h
  unfold maxLen at ha
  unfold spotV
  have hm' := hm.later ((Below.refl _ _).alloc (Nat.le_refl _) (.cells #[.string s.name, .int .i64 s.cap, .int .i64 s.least, .int .i64 s.most, .slice m s.may.length c] 105))
  by_cases hn : left - s.name.size < 0
  · go_enter Tryz.func81, Tryz.ntmps81
    go_wp2
    go_ret
    exact ⟨⟨-1, rfl, by omega, by omega, by omega⟩, (Below.refl _ _).alloc (Nat.le_refl _) _⟩
  · go_enter Tryz.func81, Tryz.ntmps81
    go_wp2_with (go_at_call 41; refine (szStringS_any m c s.may _ _ hm' hb (by omega) (by omega)).mono ?_; rintro e w1 ⟨⟨r, rfl, hr0, hr1, hr2⟩, rfl⟩)
    · go_ret
      exact ⟨⟨-1, rfl, by omega, by omega, by omega⟩, (Below.refl _ _).alloc (Nat.le_refl _) _⟩
    · go_ret
      exact ⟨⟨r, rfl, by omega, by omega, hr2⟩, (Below.refl _ _).alloc (Nat.le_refl _) _⟩

set_option maxHeartbeats 400000 in
theorem szClaimSpotS_any (a : Option Addr) (cap : Nat) (us : List Spot) (left : Int) (w : World) (hm : SpotsAt w a us) (hf : SpotsFit us) (h0 : -1 ≤ left) (h1 : left ≤ 1048576) :
    Calls Tryz.prog 40 #[.slice a us.length cap, .int .i64 left] w fun e w' => (∃ r : Int, e = .returned (.int .i64 r) ∧ -1 ≤ r ∧ r ≤ left ∧ (0 ≤ r → us.length ≤ 1048576 ∧ ∀ s ∈ us, s.may.length ≤ 1048576)) ∧ Below w.heap.size w w' := by
  obtain ⟨hl, hs⟩ := hf
  unfold maxLen at hl
  by_cases hneg : left - us.length < 0
  · go_enter Tryz.func40, Tryz.ntmps40
    go_wp2
    go_ret
    exact ⟨⟨-1, rfl, by omega, by omega, by omega⟩, Below.refl _ _⟩
  · go_enter Tryz.func40, Tryz.ntmps40
    go_wp2
    go_loopw [1, 5] (fun t i wr => ∃ (k : Nat) (l : Int), k ≤ us.length ∧ i = .int .i64 k ∧ t = .int .i64 l ∧ 0 ≤ l ∧ l ≤ left ∧ (∀ j, j < k → (gp us j).may.length ≤ 1048576) ∧ Below w.heap.size w wr) (fun _ i _ => us.length - (intOf i).toNat)
    case atStart => exact ⟨0, _, Nat.zero_le _, rfl, rfl, by omega, by omega, fun j hj => absurd hj (Nat.not_lt_zero _), Below.refl _ _⟩
    case round =>
      obtain ⟨k, l, hk, rfl, rfl, hl0, hl1, hR, hbel⟩ := hrel
      have HR : Hid (∀ j, j < k → (gp us j).may.length ≤ 1048576) := hR
      clear hR
      by_cases hlt : k < us.length
      · obtain ⟨b, o, m, c, ha, hb, hc0, hc1, hc2, hc3, hc4, hst⟩ := (hm.later hbel).at hlt
        have hsz := hs _ (gp_mem hlt)
        clear hs
        subst ha
        go_wp2_with (go_at_call 81; refine (szClaimSpot_any (gp us k) m c l _ hst hsz (by omega) (by omega)).mono ?_; rintro e w1 ⟨⟨r, rfl, hr0, hr1, hr2⟩, hb1⟩)
        · go_ret
          exact ⟨⟨-1, rfl, by omega, by omega, by omega⟩, hbel.trans (hb1.mono hbel.size)⟩
        · go_roundw
          case rel =>
            refine ⟨k + 1, r, by omega, by go_num, rfl, by omega, by omega, fun j hj => ?_, hbel.trans (hb1.mono hbel.size)⟩
            by_cases e : j = k
            · subst e; exact hr2 (by omega)
            · exact HR.out j (by omega)
          case measure => simp [intOf]; omega
      · go_wp2
        go_ret
        refine ⟨⟨l, rfl, by omega, by omega, fun _ => ⟨by omega, fun s hs' => ?_⟩⟩, hbel⟩
        obtain ⟨j, hj, rfl⟩ := List.getElem_of_mem hs'
        rw [← gp_lt hj]
        exact HR.out j (by omega)

set_option maxHeartbeats 400000 in
theorem szClaimPart_any (p : Part) (a2 a3 a4 a5 : Option Addr) (c2 c3 c4 c5 : Nat) (left : Int) (w : World) (hin : WantIn w p.want a2 a3 a4 a5) (hf : WantFit p.want) (h0 : -1 ≤ left) (h1 : left ≤ 1048576) :
    Calls Tryz.prog 82 #[partV p a2 a3 a4 a5 c2 c3 c4 c5, .int .i64 left] w fun e w' => (∃ r : Int, e = .returned (.int .i64 r) ∧ -1 ≤ r ∧ r ≤ left ∧ (0 ≤ r → WantRoom p.want)) ∧ Below w.heap.size w w' := by
  unfold partV
  have hb0 : Below w.heap.size w (w.alloc (.cells #[.int .i64 p.want.number, .int .i64 p.want.kind, .slice a2 p.want.stuffs.length c2, .slice a3 p.want.uses.length c3, .slice a4 p.want.opens.length c4, .slice a5 p.want.shuts.length c5, .bool p.stopped] 111)) := (Below.refl _ _).alloc (Nat.le_refl _) _
  go_enter Tryz.func82, Tryz.ntmps82
  go_wp2_with (go_at_call 125; refine (szClaimWant_any p.want a2 a3 a4 a5 c2 c3 c4 c5 left _ (hin.later hb0) hf h0 h1).mono ?_; rintro e w1 ⟨⟨r, rfl, hr0, hr1, hr2⟩, hb1⟩)
  · go_ret
    exact ⟨⟨-1, rfl, by omega, by omega, by omega⟩, below_over hb1⟩
  · go_ret
    exact ⟨⟨r, rfl, by omega, by omega, hr2⟩, below_over hb1⟩

set_option maxHeartbeats 400000 in
theorem szClaimPartS_any (a : Option Addr) (cap : Nat) (us : List Part) (left : Int) (w : World) (hm : PartsAt w a us) (hf : PartsFit us) (h0 : -1 ≤ left) (h1 : left ≤ 1048576) :
    Calls Tryz.prog 42 #[.slice a us.length cap, .int .i64 left] w fun e w' => (∃ r : Int, e = .returned (.int .i64 r) ∧ -1 ≤ r ∧ r ≤ left ∧ (0 ≤ r → us.length ≤ 1048576 ∧ ∀ s ∈ us, WantRoom s.want)) ∧ Below w.heap.size w w' := by
  obtain ⟨hl, hs⟩ := hf
  unfold maxLen at hl
  by_cases hneg : left - us.length < 0
  · go_enter Tryz.func42, Tryz.ntmps42
    go_wp2
    go_ret
    exact ⟨⟨-1, rfl, by omega, by omega, by omega⟩, Below.refl _ _⟩
  · go_enter Tryz.func42, Tryz.ntmps42
    go_wp2
    go_loopw [1, 5] (fun t i wr => ∃ (k : Nat) (l : Int), k ≤ us.length ∧ i = .int .i64 k ∧ t = .int .i64 l ∧ 0 ≤ l ∧ l ≤ left ∧ (∀ j, j < k → WantRoom (gq us j).want) ∧ Below w.heap.size w wr) (fun _ i _ => us.length - (intOf i).toNat)
    case atStart => exact ⟨0, _, Nat.zero_le _, rfl, rfl, by omega, by omega, fun j hj => absurd hj (Nat.not_lt_zero _), Below.refl _ _⟩
    case round =>
      obtain ⟨k, l, hk, rfl, rfl, hl0, hl1, hR, hbel⟩ := hrel
      have HR : Hid (∀ j, j < k → WantRoom (gq us j).want) := hR
      clear hR
      by_cases hlt : k < us.length
      · obtain ⟨b, o, a2, a3, a4, a5, c2, c3, c4, c5, ha, hb, hc0, hc1, hc2, hc3, hc4, hc5, hc6, hst⟩ := (hm.later hbel).at hlt
        have hsz := hs _ (gq_mem hlt)
        clear hs
        subst ha
        go_wp2_with (go_at_call 82; refine (szClaimPart_any (gq us k) a2 a3 a4 a5 c2 c3 c4 c5 l _ hst hsz (by omega) (by omega)).mono ?_; rintro e w1 ⟨⟨r, rfl, hr0, hr1, hr2⟩, hb1⟩)
        · go_ret
          exact ⟨⟨-1, rfl, by omega, by omega, by omega⟩, hbel.trans (hb1.mono hbel.size)⟩
        · go_roundw
          case rel =>
            refine ⟨k + 1, r, by omega, by go_num, rfl, by omega, by omega, fun j hj => ?_, hbel.trans (hb1.mono hbel.size)⟩
            by_cases e : j = k
            · subst e; exact hr2 (by omega)
            · exact HR.out j (by omega)
          case measure => simp [intOf]; omega
      · go_wp2
        go_ret
        refine ⟨⟨l, rfl, by omega, by omega, fun _ => ⟨by omega, fun s hs' => ?_⟩⟩, hbel⟩
        obtain ⟨j, hj, rfl⟩ := List.getElem_of_mem hs'
        rw [← gq_lt hj]
        exact HR.out j (by omega)

set_option maxHeartbeats 1000000 in
theorem szClaimBook_any (x : Book) (af ap av aq : Option Addr) (cf cp cv cq : Nat) (left : Int) (w : World) (hin : BookIn w x af ap av aq) (hf : BookFit x) (h0 : -1 ≤ left) (h1 : left ≤ 1048576) :
    Calls Tryz.prog 18 #[bookV x af ap av aq cf cp cv cq, .int .i64 left] w fun e w' => (∃ r : Int, e = .returned (.int .i64 r) ∧ -1 ≤ r ∧ r ≤ left ∧ (0 ≤ r → BookRoom x)) ∧ Below w.heap.size w w' := by
  unfold bookV
  have b0 : Below w.heap.size w (w.alloc (.cells #[.slice af x.foes.length cf, .slice ap x.spots.length cp, .slice av x.valves.length cv, .slice aq x.parts.length cq, .int .i64 x.seen] 49)) := (Below.refl _ _).alloc (Nat.le_refl _) _
  have i0 := Row.new w 49 [.slice af x.foes.length cf, .slice ap x.spots.length cp, .slice av x.valves.length cv, .slice aq x.parts.length cq, .int .i64 x.seen]
  go_enter Tryz.func18, Tryz.ntmps18
  go_wp2_with fail
  refine (szClaimFoeS_any af cf x.foes left _ (hin.later b0).foes hf.foes h0 h1).mono ?_
  rintro e w1 ⟨⟨r1, rfl, hr1, hr1', hR1⟩, hb⟩
  have b1 := b0.trans (hb.mono b0.size)
  have i1 := i0.later hb
  clear b0 i0 hb
  by_cases hn1 : r1 < 0
  · go_wp2
    go_ret
    exact ⟨⟨-1, rfl, by omega, by omega, by omega⟩, b1⟩
  have R1 := hR1 (by omega)
  clear hR1
  have q1 := i1.cell 1 rfl
  go_wp2_with fail
  refine (szClaimSpotS_any ap cp x.spots r1 _ (hin.later b1).spots hf.spots (by omega) (by omega)).mono ?_
  rintro e w2 ⟨⟨r2, rfl, hr2, hr2', hR2⟩, hb⟩
  have b2 := b1.trans (hb.mono b1.size)
  have i2 := i1.later hb
  clear b1 i1 hb q1
  by_cases hn2 : r2 < 0
  · go_wp2
    go_ret
    exact ⟨⟨-1, rfl, by omega, by omega, by omega⟩, b2⟩
  have R2 := hR2 (by omega)
  clear hR2
  have HR2 : Hid (x.spots.length ≤ 1048576 ∧ ∀ s ∈ x.spots, s.may.length ≤ 1048576) := R2
  clear R2
  have q2 := i2.cell 2 rfl
  go_wp2_with fail
  refine (szStringS_any av cv x.valves r2 _ (hin.later b2).valves hf.valves (by omega) (by omega)).mono ?_
  rintro e w3 ⟨⟨r3, rfl, hr3, hr3', hR3⟩, rfl⟩
  by_cases hn3 : r3 < 0
  · go_wp2
    go_ret
    exact ⟨⟨-1, rfl, by omega, by omega, by omega⟩, b2⟩
  have R3 := hR3 (by omega)
  clear hR3
  have q3 := i2.cell 3 rfl
  go_wp2_with fail
  refine (szClaimPartS_any aq cq x.parts r3 _ (hin.later b2).parts hf.parts (by omega) (by omega)).mono ?_
  rintro e w4 ⟨⟨r4, rfl, hr4, hr4', hR4⟩, hb⟩
  have b4 := b2.trans (hb.mono b2.size)
  by_cases hn4 : r4 < 0
  · go_wp2
    go_ret
    exact ⟨⟨-1, rfl, by omega, by omega, by omega⟩, b4⟩
  · have R4 := hR4 (by omega)
    have HR4 : Hid (x.parts.length ≤ 1048576 ∧ ∀ s ∈ x.parts, WantRoom s.want) := R4
    clear R4 hR4
    go_wp2
    go_ret
    exact ⟨⟨r4, rfl, by omega, by omega, fun _ => ⟨R1, HR2.out.1, HR2.out.2, R3, HR4.out.1, HR4.out.2⟩⟩, b4⟩

end Go.Proofs.YtfmhkicncgccjaaGreat
