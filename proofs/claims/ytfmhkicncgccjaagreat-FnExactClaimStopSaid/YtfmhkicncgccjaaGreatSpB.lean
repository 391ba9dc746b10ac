/- Joined: OwSz, OwA, OwN, OwK, CdP, CdS1, CdI0. -/
import Derived.Test.YtfmhkicncgccjaaGreatBkSz
import Derived.Test.YtfmhkicncgccjaaGreatSpA
import Derived.Test.YtfmhkicncgccjaaGreatBkSA
import Derived.Test.YtfmhkicncgccjaaGreatBkI6
/- What the law's own sz functions tell of how much there is in all. -/
namespace Go.Proofs.YtfmhkicncgccjaaGreat
open Go.RowKit Go.Sort
set_option linter.unusedSimpArgs false
set_option linter.unusedVariables false

def sumTo : Nat → (Nat → Nat) → Nat
  | 0, _ => 0
  | n + 1, f => sumTo n f + f n
theorem sumTo_succ (n : Nat) (f : Nat → Nat) : sumTo (n + 1) f = sumTo n f + f n := rfl
theorem sumTo_at {n : Nat} {f : Nat → Nat} {i : Nat} (h : i < n) : f i ≤ sumTo n f := by
  induction n with
  | zero => omega
  | succ n ih =>
    rw [sumTo_succ]
    by_cases e : i = n
    · subst e; omega
    · have := ih (by omega); omega
/-- How many elements a want's lists, a book's lists have in all. -/
def wW (y : Want) : Nat := y.stuffs.length + y.uses.length + y.opens.length + y.shuts.length
def wB (x : Book) : Nat := x.foes.length + (x.spots.length + sumTo x.spots.length (fun i => (gp x.spots i).may.length)) + x.valves.length + (x.parts.length + sumTo x.parts.length (fun i => wW (gq x.parts i).want))
theorem wantRoom_of {y : Want} (h : wW y ≤ 1048576) : WantRoom y := by
  unfold wW at h
  exact ⟨by omega, by omega, by omega, by omega⟩
theorem bookRoom_of {x : Book} (h : wB x ≤ 1048576) : BookRoom x := by
  unfold wB at h
  refine ⟨by omega, by omega, fun s hs => ?_, by omega, by omega, fun p hp => wantRoom_of ?_⟩
  · obtain ⟨i, hi, rfl⟩ := List.getElem_of_mem hs
    have := sumTo_at (f := fun i => (gp x.spots i).may.length) hi
    rw [← gp_lt hi]
    omega
  · obtain ⟨i, hi, rfl⟩ := List.getElem_of_mem hp
    have := sumTo_at (f := fun i => wW (gq x.parts i).want) hi
    rw [← gq_lt hi]
    omega

set_option maxHeartbeats 400000 in
theorem szStringS_w (a : Option Addr) (cap : Nat) (ss : List ByteArray) (left : Int) (w : World) (hm : StrsAt w a ss) (hf : Fit ss) (h0 : -1 ≤ left) (h1 : left ≤ 1048576) :
    Calls Tryz.prog 41 #[.slice a ss.length cap, .int .i64 left] w fun e w' => (∃ r : Int, e = .returned (.int .i64 r) ∧ -1 ≤ r ∧ r ≤ left ∧ (0 ≤ r → (ss.length : Int) ≤ left - r)) ∧ w = w' := by
  obtain ⟨hl, hs⟩ := hf
  unfold maxLen at hl hs
  by_cases hneg : left - ss.length < 0
  · go_enter Tryz.func41, Tryz.ntmps41
    go_wp2
    go_ret
    exact ⟨⟨-1, rfl, by omega, by omega, by omega⟩, rfl⟩
  · go_enter Tryz.func41, Tryz.ntmps41
    go_wp2
    go_loop [1, 5] (fun t i => ∃ (k : Nat) (l : Int), k ≤ ss.length ∧ i = .int .i64 k ∧ t = .int .i64 l ∧ 0 ≤ l ∧ l ≤ left - ss.length) (fun _ i => ss.length - (intOf i).toNat)
    case atStart => exact ⟨0, _, Nat.zero_le _, rfl, rfl, by omega, by omega⟩
    case round =>
      obtain ⟨k, l, hk, rfl, rfl, hl0, hl1⟩ := hrel
      by_cases hlt : k < ss.length
      · obtain ⟨b, o, ha, hb, hc⟩ := hm.at hlt
        have hsz : (gs ss k).size ≤ 2 ^ 63 - 1 := hs _ (gs_mem hlt)
        clear hs
        generalize gs ss k = s at hc hsz
        subst ha
        go_wp2
        · go_ret
          exact ⟨⟨-1, rfl, by omega, by omega, by omega⟩, rfl⟩
        · go_round
          case rel => exact ⟨k + 1, l - s.size, by omega, by go_num, rfl, by omega, by omega⟩
          case measure => simp [intOf]; omega
      · go_wp2
        go_ret
        exact ⟨⟨l, rfl, by omega, by omega, by omega⟩, rfl⟩

set_option maxHeartbeats 400000 in
theorem szClaimUseS_w (a : Option Addr) (cap : Nat) (us : List Use) (left : Int) (w : World) (hm : UsesAt w a us) (hl : us.length ≤ maxLen) (hs : ∀ u ∈ us, u.name.size ≤ maxLen) (h0 : -1 ≤ left) (h1 : left ≤ 1048576) :
    Calls Tryz.prog 153 #[.slice a us.length cap, .int .i64 left] w fun e w' => (∃ r : Int, e = .returned (.int .i64 r) ∧ -1 ≤ r ∧ r ≤ left ∧ (0 ≤ r → (us.length : Int) ≤ left - r)) ∧ Below w.heap.size w w' := by
  unfold maxLen at hl
  by_cases hneg : left - us.length < 0
  · go_enter Tryz.func153, Tryz.ntmps153
    go_wp2
    go_ret
    exact ⟨⟨-1, rfl, by omega, by omega, by omega⟩, Below.refl _ _⟩
  · go_enter Tryz.func153, Tryz.ntmps153
    go_wp2
    go_loopw [1, 5] (fun t i wr => ∃ (k : Nat) (l : Int), k ≤ us.length ∧ i = .int .i64 k ∧ t = .int .i64 l ∧ 0 ≤ l ∧ l ≤ left - us.length ∧ Below w.heap.size w wr) (fun _ i _ => us.length - (intOf i).toNat)
    case atStart => exact ⟨0, _, Nat.zero_le _, rfl, rfl, by omega, by omega, Below.refl _ _⟩
    case round =>
      obtain ⟨k, l, hk, rfl, rfl, hl0, hl1, hbel⟩ := hrel
      by_cases hlt : k < us.length
      · obtain ⟨b, o, ha, hb, hc0, hc1, hc2⟩ := (hm.later hbel).at hlt
        have hsz : (gu us k).name.size ≤ maxLen := hs _ (gu_mem hlt)
        clear hs
        generalize gu us k = u at hc0 hc1 hc2 hsz
        subst ha
        go_wp2_with (go_at_call 168; refine (szClaimUse_any u l _ hsz (by omega) (by omega)).mono ?_; rintro e w1 ⟨⟨r, rfl, hr0, hr1⟩, hb1⟩)
        · go_ret
          exact ⟨⟨-1, rfl, by omega, by omega, by omega⟩, hbel.trans (hb1.mono hbel.size)⟩
        · go_roundw
          case rel => exact ⟨k + 1, r, by omega, by go_num, rfl, by omega, by omega, hbel.trans (hb1.mono hbel.size)⟩
          case measure => simp [intOf]; omega
      · go_wp2
        go_ret
        exact ⟨⟨l, rfl, by omega, by omega, by omega⟩, hbel⟩

set_option maxHeartbeats 400000 in
theorem szClaimFoeS_w (a : Option Addr) (cap : Nat) (us : List Foe) (left : Int) (w : World) (hm : FoesAt w a us) (hf : FoesFit us) (h0 : -1 ≤ left) (h1 : left ≤ 1048576) :
    Calls Tryz.prog 39 #[.slice a us.length cap, .int .i64 left] w fun e w' => (∃ r : Int, e = .returned (.int .i64 r) ∧ -1 ≤ r ∧ r ≤ left ∧ (0 ≤ r → (us.length : Int) ≤ left - r)) ∧ Below w.heap.size w w' := by
  obtain ⟨hl, hs⟩ := hf
  unfold maxLen at hl
  by_cases hneg : left - us.length < 0
  · go_enter Tryz.func39, Tryz.ntmps39
    go_wp2
    go_ret
    exact ⟨⟨-1, rfl, by omega, by omega, by omega⟩, Below.refl _ _⟩
  · go_enter Tryz.func39, Tryz.ntmps39
    go_wp2
    go_loopw [1, 5] (fun t i wr => ∃ (k : Nat) (l : Int), k ≤ us.length ∧ i = .int .i64 k ∧ t = .int .i64 l ∧ 0 ≤ l ∧ l ≤ left - us.length ∧ Below w.heap.size w wr) (fun _ i _ => us.length - (intOf i).toNat)
    case atStart => exact ⟨0, _, Nat.zero_le _, rfl, rfl, by omega, by omega, Below.refl _ _⟩
    case round =>
      obtain ⟨k, l, hk, rfl, rfl, hl0, hl1, hbel⟩ := hrel
      by_cases hlt : k < us.length
      · obtain ⟨b, o, ha, hb, hc0, hc1⟩ := (hm.later hbel).at hlt
        have hsz := hs _ (gf_mem hlt)
        clear hs
        generalize gf us k = u at hc0 hc1 hsz
        subst ha
        go_wp2_with (go_at_call 80; refine (szClaimFoe_any u l _ hsz (by omega) (by omega)).mono ?_; rintro e w1 ⟨⟨r, rfl, hr0, hr1⟩, hb1⟩)
        · go_ret
          exact ⟨⟨-1, rfl, by omega, by omega, by omega⟩, hbel.trans (hb1.mono hbel.size)⟩
        · go_roundw
          case rel => exact ⟨k + 1, r, by omega, by go_num, rfl, by omega, by omega, hbel.trans (hb1.mono hbel.size)⟩
          case measure => simp [intOf]; omega
      · go_wp2
        go_ret
        exact ⟨⟨l, rfl, by omega, by omega, by omega⟩, hbel⟩

set_option maxHeartbeats 400000 in
theorem szClaimSpot_w (s : Spot) (m : Option Addr) (c : Nat) (left : Int) (w : World) (hm : StrsAt w m s.may) (h : s.name.size ≤ maxLen ∧ Fit s.may) (h0 : -1 ≤ left) (h1 : left ≤ 1048576) :
    Calls Tryz.prog 81 #[spotV s m c, .int .i64 left] w fun e w' => (∃ r : Int, e = .returned (.int .i64 r) ∧ -1 ≤ r ∧ r ≤ left ∧ (0 ≤ r → (s.may.length : Int) ≤ left - r)) ∧ Below w.heap.size w w' := by
  obtain ⟨ha, hb⟩ := h
  unfold maxLen at ha
  unfold spotV
  have hm' := hm.later ((Below.refl _ _).alloc (Nat.le_refl _) (.cells #[.string s.name, .int .i64 s.cap, .int .i64 s.least, .int .i64 s.most, .slice m s.may.length c] 105))
  by_cases hn : left - s.name.size < 0
  · go_enter Tryz.func81, Tryz.ntmps81
    go_wp2
    go_ret
    exact ⟨⟨-1, rfl, by omega, by omega, by omega⟩, (Below.refl _ _).alloc (Nat.le_refl _) _⟩
  · go_enter Tryz.func81, Tryz.ntmps81
    go_wp2_with (go_at_call 41; refine (szStringS_w m c s.may _ _ hm' hb (by omega) (by omega)).mono ?_; rintro e w1 ⟨⟨r, rfl, hr0, hr1, hr2⟩, rfl⟩)
    · go_ret
      exact ⟨⟨-1, rfl, by omega, by omega, by omega⟩, (Below.refl _ _).alloc (Nat.le_refl _) _⟩
    · go_ret
      exact ⟨⟨r, rfl, by omega, by omega, fun h => by have := hr2 h; omega⟩, (Below.refl _ _).alloc (Nat.le_refl _) _⟩

set_option maxHeartbeats 400000 in
theorem szClaimSpotS_w (a : Option Addr) (cap : Nat) (us : List Spot) (left : Int) (w : World) (hm : SpotsAt w a us) (hf : SpotsFit us) (h0 : -1 ≤ left) (h1 : left ≤ 1048576) :
    Calls Tryz.prog 40 #[.slice a us.length cap, .int .i64 left] w fun e w' => (∃ r : Int, e = .returned (.int .i64 r) ∧ -1 ≤ r ∧ r ≤ left ∧ (0 ≤ r → ((us.length + sumTo us.length (fun i => (gp us i).may.length) : Nat) : Int) ≤ left - r)) ∧ Below w.heap.size w w' := by
  obtain ⟨hl, hs⟩ := hf
  unfold maxLen at hl
  by_cases hneg : left - us.length < 0
  · go_enter Tryz.func40, Tryz.ntmps40
    go_wp2
    go_ret
    exact ⟨⟨-1, rfl, by omega, by omega, by omega⟩, Below.refl _ _⟩
  · go_enter Tryz.func40, Tryz.ntmps40
    go_wp2
    go_loopw [1, 5] (fun t i wr => ∃ (k : Nat) (l : Int), k ≤ us.length ∧ i = .int .i64 k ∧ t = .int .i64 l ∧ 0 ≤ l ∧ l ≤ left - ((us.length + sumTo k (fun i => (gp us i).may.length) : Nat) : Int) ∧ Below w.heap.size w wr) (fun _ i _ => us.length - (intOf i).toNat)
    case atStart => exact ⟨0, _, Nat.zero_le _, rfl, rfl, by omega, by simp [sumTo], Below.refl _ _⟩
    case round =>
      obtain ⟨k, l, hk, rfl, rfl, hl0, hl1, hbel⟩ := hrel
      have hstep := sumTo_succ k (fun i => (gp us i).may.length)
      by_cases hlt : k < us.length
      · obtain ⟨b, o, m, c, ha, hb, hc0, hc1, hc2, hc3, hc4, hst⟩ := (hm.later hbel).at hlt
        have hsz := hs _ (gp_mem hlt)
        clear hs
        subst ha
        go_wp2_with (go_at_call 81; refine (szClaimSpot_w (gp us k) m c l _ hst hsz (by omega) (by omega)).mono ?_; rintro e w1 ⟨⟨r, rfl, hr0, hr1, hr2⟩, hb1⟩)
        · go_ret
          exact ⟨⟨-1, rfl, by omega, by omega, by omega⟩, hbel.trans (hb1.mono hbel.size)⟩
        · go_roundw
          case rel => exact ⟨k + 1, r, by omega, by go_num, rfl, by omega, by rw [hstep]; have := hr2 (by omega); push_cast at *; omega, hbel.trans (hb1.mono hbel.size)⟩
          case measure => simp [intOf]; omega
      · go_wp2
        go_ret
        have : k = us.length := by omega
        subst this
        exact ⟨⟨l, rfl, by omega, by omega, fun _ => by omega⟩, hbel⟩

set_option maxHeartbeats 2000000 in
theorem szClaimWant_w (x : Want) (a2 a3 a4 a5 : Option Addr) (c2 c3 c4 c5 : Nat) (left : Int) (w : World) (hin : WantIn w x a2 a3 a4 a5) (hf : WantFit x) (h0 : -1 ≤ left) (h1 : left ≤ 1048576) :
    Calls Tryz.prog 125 #[wantW x a2 a3 a4 a5 c2 c3 c4 c5, .int .i64 left] w fun e w' => (∃ r : Int, e = .returned (.int .i64 r) ∧ -1 ≤ r ∧ r ≤ left ∧ (0 ≤ r → ((wW x : Nat) : Int) ≤ left - r)) ∧ Below w.heap.size w w' := by
  unfold wantW
  have HB0 : Below (w.alloc (.cells #[.int .i64 x.number, .int .i64 x.kind, .slice a2 x.stuffs.length c2, .slice a3 x.uses.length c3, .slice a4 x.opens.length c4, .slice a5 x.shuts.length c5] 109)).heap.size (w.alloc (.cells #[.int .i64 x.number, .int .i64 x.kind, .slice a2 x.stuffs.length c2, .slice a3 x.uses.length c3, .slice a4 x.opens.length c4, .slice a5 x.shuts.length c5] 109)) (w.alloc (.cells #[.int .i64 x.number, .int .i64 x.kind, .slice a2 x.stuffs.length c2, .slice a3 x.uses.length c3, .slice a4 x.opens.length c4, .slice a5 x.shuts.length c5] 109)) := Below.refl _ _
  have hin1 := hin.later (below_over HB0)
  go_enter Tryz.func125, Tryz.ntmps125
  go_wp2_with fail
  refine (szStringS_w a2 c2 x.stuffs left _ hin1.stuffs hf.stuffs h0 h1).mono ?_
  rintro e w1 ⟨⟨r1, rfl, hr1, hr1', hR1⟩, rfl⟩
  by_cases hn1 : r1 < 0
  · go_wp2
    go_ret
    exact ⟨⟨-1, rfl, by omega, by omega, by omega⟩, below_over HB0⟩
  have R1 := hR1 (by omega)
  clear hR1
  go_wp2_with fail
  refine (szClaimUseS_w a3 c3 x.uses r1 _ hin1.uses hf.usesLen hf.usesNames (by omega) (by omega)).mono ?_
  rintro e w2 ⟨⟨r2, rfl, hr2, hr2', hR2⟩, hb⟩
  have HB2 := HB0.trans (hb.mono HB0.size)
  obtain ⟨y0, y1, y2, y3, y4, y5, hz⟩ := box6 HB2
  clear hb HB0 hin1
  have hin2 := hin.later (below_over HB2)
  by_cases hn2 : r2 < 0
  · go_wp2
    go_ret
    exact ⟨⟨-1, rfl, by omega, by omega, by omega⟩, below_over HB2⟩
  have R2 := hR2 (by omega)
  clear hR2
  go_wp2_with fail
  refine (szStringS_w a4 c4 x.opens r2 _ hin2.opens hf.opens (by omega) (by omega)).mono ?_
  rintro e w3 ⟨⟨r3, rfl, hr3, hr3', hR3⟩, rfl⟩
  by_cases hn3 : r3 < 0
  · go_wp2
    go_ret
    exact ⟨⟨-1, rfl, by omega, by omega, by omega⟩, below_over HB2⟩
  have R3 := hR3 (by omega)
  clear hR3
  go_wp2_with fail
  refine (szStringS_w a5 c5 x.shuts r3 _ hin2.shuts hf.shuts (by omega) (by omega)).mono ?_
  rintro e w4 ⟨⟨r4, rfl, hr4, hr4', hR4⟩, rfl⟩
  by_cases hn4 : r4 < 0
  · go_wp2
    go_ret
    exact ⟨⟨-1, rfl, by omega, by omega, by omega⟩, below_over HB2⟩
  · have R4 := hR4 (by omega)
    go_wp2
    go_ret
    exact ⟨⟨r4, rfl, by omega, by omega, fun _ => by unfold wW; push_cast; omega⟩, below_over HB2⟩

set_option maxHeartbeats 400000 in
theorem szClaimPart_w (p : Part) (a2 a3 a4 a5 : Option Addr) (c2 c3 c4 c5 : Nat) (left : Int) (w : World) (hin : WantIn w p.want a2 a3 a4 a5) (hf : WantFit p.want) (h0 : -1 ≤ left) (h1 : left ≤ 1048576) :
    Calls Tryz.prog 82 #[partV p a2 a3 a4 a5 c2 c3 c4 c5, .int .i64 left] w fun e w' => (∃ r : Int, e = .returned (.int .i64 r) ∧ -1 ≤ r ∧ r ≤ left ∧ (0 ≤ r → ((wW p.want : Nat) : Int) ≤ left - r)) ∧ Below w.heap.size w w' := by
  unfold partV
  have hb0 : Below w.heap.size w (w.alloc (.cells #[.int .i64 p.want.number, .int .i64 p.want.kind, .slice a2 p.want.stuffs.length c2, .slice a3 p.want.uses.length c3, .slice a4 p.want.opens.length c4, .slice a5 p.want.shuts.length c5, .bool p.stopped] 111)) := (Below.refl _ _).alloc (Nat.le_refl _) _
  go_enter Tryz.func82, Tryz.ntmps82
  go_wp2_with (go_at_call 125; refine (szClaimWant_w p.want a2 a3 a4 a5 c2 c3 c4 c5 left _ (hin.later hb0) hf h0 h1).mono ?_; rintro e w1 ⟨⟨r, rfl, hr0, hr1, hr2⟩, hb1⟩)
  · go_ret
    exact ⟨⟨-1, rfl, by omega, by omega, by omega⟩, below_over hb1⟩
  · go_ret
    exact ⟨⟨r, rfl, by omega, by omega, hr2⟩, below_over hb1⟩

set_option maxHeartbeats 400000 in
theorem szClaimPartS_w (a : Option Addr) (cap : Nat) (us : List Part) (left : Int) (w : World) (hm : PartsAt w a us) (hf : PartsFit us) (h0 : -1 ≤ left) (h1 : left ≤ 1048576) :
    Calls Tryz.prog 42 #[.slice a us.length cap, .int .i64 left] w fun e w' => (∃ r : Int, e = .returned (.int .i64 r) ∧ -1 ≤ r ∧ r ≤ left ∧ (0 ≤ r → ((us.length + sumTo us.length (fun i => wW (gq us i).want) : Nat) : Int) ≤ left - r)) ∧ Below w.heap.size w w' := by
  obtain ⟨hl, hs⟩ := hf
  unfold maxLen at hl
  by_cases hneg : left - us.length < 0
  · go_enter Tryz.func42, Tryz.ntmps42
    go_wp2
    go_ret
    exact ⟨⟨-1, rfl, by omega, by omega, by omega⟩, Below.refl _ _⟩
  · go_enter Tryz.func42, Tryz.ntmps42
    go_wp2
    go_loopw [1, 5] (fun t i wr => ∃ (k : Nat) (l : Int), k ≤ us.length ∧ i = .int .i64 k ∧ t = .int .i64 l ∧ 0 ≤ l ∧ l ≤ left - ((us.length + sumTo k (fun i => wW (gq us i).want) : Nat) : Int) ∧ Below w.heap.size w wr) (fun _ i _ => us.length - (intOf i).toNat)
    case atStart => exact ⟨0, _, Nat.zero_le _, rfl, rfl, by omega, by simp [sumTo], Below.refl _ _⟩
    case round =>
      obtain ⟨k, l, hk, rfl, rfl, hl0, hl1, hbel⟩ := hrel
      have hstep := sumTo_succ k (fun i => wW (gq us i).want)
      by_cases hlt : k < us.length
      · obtain ⟨b, o, a2, a3, a4, a5, c2, c3, c4, c5, ha, hb, hc0, hc1, hc2, hc3, hc4, hc5, hc6, hst⟩ := (hm.later hbel).at hlt
        have hsz := hs _ (gq_mem hlt)
        clear hs
        subst ha
        go_wp2_with (go_at_call 82; refine (szClaimPart_w (gq us k) a2 a3 a4 a5 c2 c3 c4 c5 l _ hst hsz (by omega) (by omega)).mono ?_; rintro e w1 ⟨⟨r, rfl, hr0, hr1, hr2⟩, hb1⟩)
        · go_ret
          exact ⟨⟨-1, rfl, by omega, by omega, by omega⟩, hbel.trans (hb1.mono hbel.size)⟩
        · go_roundw
          case rel => exact ⟨k + 1, r, by omega, by go_num, rfl, by omega, by rw [hstep]; have := hr2 (by omega); push_cast at *; omega, hbel.trans (hb1.mono hbel.size)⟩
          case measure => simp [intOf]; omega
      · go_wp2
        go_ret
        have : k = us.length := by omega
        subst this
        exact ⟨⟨l, rfl, by omega, by omega, fun _ => by omega⟩, hbel⟩

set_option maxHeartbeats 1000000 in
theorem szClaimBook_w (x : Book) (af ap av aq : Option Addr) (cf cp cv cq : Nat) (left : Int) (w : World) (hin : BookIn w x af ap av aq) (hf : BookFit x) (h0 : -1 ≤ left) (h1 : left ≤ 1048576) :
    Calls Tryz.prog 18 #[bookV x af ap av aq cf cp cv cq, .int .i64 left] w fun e w' => (∃ r : Int, e = .returned (.int .i64 r) ∧ -1 ≤ r ∧ r ≤ left ∧ (0 ≤ r → ((wB x : Nat) : Int) ≤ left - r)) ∧ Below w.heap.size w w' := by
  unfold bookV
  have b0 : Below w.heap.size w (w.alloc (.cells #[.slice af x.foes.length cf, .slice ap x.spots.length cp, .slice av x.valves.length cv, .slice aq x.parts.length cq, .int .i64 x.seen] 49)) := (Below.refl _ _).alloc (Nat.le_refl _) _
  have i0 := Row.new w 49 [.slice af x.foes.length cf, .slice ap x.spots.length cp, .slice av x.valves.length cv, .slice aq x.parts.length cq, .int .i64 x.seen]
  go_enter Tryz.func18, Tryz.ntmps18
  go_wp2_with fail
  refine (szClaimFoeS_w af cf x.foes left _ (hin.later b0).foes hf.foes h0 h1).mono ?_
  rintro e w1 ⟨⟨r1, rfl, hr1, hr1', hR1⟩, hb⟩
  have b1 := b0.trans (hb.mono b0.size)
  have i1 := i0.later hb
  clear b0 i0 hb
  by_cases hn1 : r1 < 0
  · go_wp2
    go_ret
    exact ⟨⟨-1, rfl, by omega, by omega, by omega⟩, b1⟩
  have R1 := hR1 (by omega)
  clear hR1
  have q1 := i1.cell 1 rfl
  go_wp2_with fail
  refine (szClaimSpotS_w ap cp x.spots r1 _ (hin.later b1).spots hf.spots (by omega) (by omega)).mono ?_
  rintro e w2 ⟨⟨r2, rfl, hr2, hr2', hR2⟩, hb⟩
  have b2 := b1.trans (hb.mono b1.size)
  have i2 := i1.later hb
  clear b1 i1 hb q1
  by_cases hn2 : r2 < 0
  · go_wp2
    go_ret
    exact ⟨⟨-1, rfl, by omega, by omega, by omega⟩, b2⟩
  have R2 := hR2 (by omega)
  clear hR2
  have q2 := i2.cell 2 rfl
  go_wp2_with fail
  refine (szStringS_w av cv x.valves r2 _ (hin.later b2).valves hf.valves (by omega) (by omega)).mono ?_
  rintro e w3 ⟨⟨r3, rfl, hr3, hr3', hR3⟩, rfl⟩
  by_cases hn3 : r3 < 0
  · go_wp2
    go_ret
    exact ⟨⟨-1, rfl, by omega, by omega, by omega⟩, b2⟩
  have R3 := hR3 (by omega)
  clear hR3
  have q3 := i2.cell 3 rfl
  go_wp2_with fail
  refine (szClaimPartS_w aq cq x.parts r3 _ (hin.later b2).parts hf.parts (by omega) (by omega)).mono ?_
  rintro e w4 ⟨⟨r4, rfl, hr4, hr4', hR4⟩, hb⟩
  have b4 := b2.trans (hb.mono b2.size)
  by_cases hn4 : r4 < 0
  · go_wp2
    go_ret
    exact ⟨⟨-1, rfl, by omega, by omega, by omega⟩, b4⟩
  · have R4 := hR4 (by omega)
    go_wp2
    go_ret
    exact ⟨⟨r4, rfl, by omega, by omega, fun _ => by unfold wB; push_cast at *; omega⟩, b4⟩

end Go.Proofs.YtfmhkicncgccjaaGreat

/- Lists, spots, parts and books that own their memory. -/
namespace Go.Proofs.YtfmhkicncgccjaaGreat
open Go.RowKit Go.Sort
set_option linter.unusedSimpArgs false
set_option linter.unusedVariables false

/-- n elements of s cells, as f tells, in a block of their own; nothing is said of an empty list. -/
def OwnL (w : World) (t : TypeId) (s : Nat) (a : Option Addr) (n : Nat) (f : Nat → Nat → Value) : Prop :=
  n = 0 ∨ ∃ b l, a = some ⟨b, 0, none⟩ ∧ Row w b t l ∧ n * s ≤ l.length ∧ ∀ k, k < n → ∀ j, j < s → l[k * s + j]? = some (f k j)
theorem OwnL.rowAt {w : World} {t : TypeId} {s : Nat} {a : Option Addr} {n : Nat} {f : Nat → Nat → Value} (h : OwnL w t s a n f) : RowAt w a n s f := by
  intro k hk
  rcases h with h | ⟨b, l, rfl, hr, hl, hc⟩
  · omega
  · refine ⟨b, 0, rfl, hr.lt, fun j hj => ?_⟩
    rw [Nat.zero_add]
    exact hr.cell _ (hc k hk j hj)
theorem OwnL.slot {w : World} {t : TypeId} {s : Nat} {a : Option Addr} {n : Nat} {f : Nat → Nat → Value} (h : OwnL w t s a n f) : Slot w t s a n := by
  rcases h with h | ⟨b, l, rfl, hr, hl, hc⟩
  · exact Or.inl h
  · exact Or.inr ⟨b, l, rfl, hr, hl⟩
theorem OwnL.only {B : Nat → Prop} {w w' : World} {t : TypeId} {s : Nat} {a : Option Addr} {n : Nat} {f : Nat → Nat → Value} (h : OwnL w t s a n f) (ho : Only B w w') (hB : ∀ x, InSlot a n x → ¬ B x) : OwnL w' t s a n f := by
  rcases h with h | ⟨b, l, rfl, hr, hl, hc⟩
  · exact Or.inl h
  · by_cases hn : n = 0
    · exact Or.inl hn
    · exact Or.inr ⟨b, l, rfl, hr.only ho (hB b ⟨hn, 0, rfl⟩), hl, hc⟩
theorem OwnL.later {w w' : World} {t : TypeId} {s : Nat} {a : Option Addr} {n : Nat} {f : Nat → Nat → Value} (h : OwnL w t s a n f) (hb : Below w.heap.size w w') : OwnL w' t s a n f := h.only (Only.of (B := fun _ => False) hb) (fun _ _ => id)
theorem OwnL.lt {w : World} {t : TypeId} {s : Nat} {a : Option Addr} {n : Nat} {f : Nat → Nat → Value} (h : OwnL w t s a n f) {x : Nat} (hx : InSlot a n x) : x < w.heap.size := by
  obtain ⟨hn, o, rfl⟩ := hx
  rcases h with h | ⟨b, l, e, hr, hl, hc⟩
  · exact absurd h hn
  · cases e
    exact hr.lt
theorem OwnL.of_rowIs {w : World} {b : Nat} {t : TypeId} {s n m : Nat} {g : Nat → Value} {f : Nat → Nat → Value} (h : w.rowIs b t m g) (hm : n * s ≤ m) (hg : ∀ k, k < n → ∀ j, j < s → g (k * s + j) = f k j) : OwnL w t s (some ⟨b, 0, none⟩) n f := by
  obtain ⟨c, hb, hs, hc⟩ := h
  refine Or.inr ⟨b, c.toList, rfl, ?_, by simp [hs, hm], fun k hk j hj => ?_⟩
  · unfold Row
    rw [hb]
  · have hlt : k * s + j < m := by
      have h1 : (k + 1) * s ≤ n * s := Nat.mul_le_mul_right s hk
      rw [Nat.add_mul, Nat.one_mul] at h1
      omega
    rw [Array.getElem?_toList, hc _ hlt, hg k hk j hj]
theorem inSlot_some {b n x : Nat} (h : InSlot (some ⟨b, 0, none⟩) n x) : x = b := by
  obtain ⟨_, o, e⟩ := h
  cases e
  rfl

def strF (ss : List ByteArray) (k : Nat) (_ : Nat) : Value := .string (gs ss k)
def useF (us : List Use) (k : Nat) : Nat → Value := useCell (gu us k)
def foeF (us : List Foe) (k : Nat) : Nat → Value := foeCell (gf us k)

/-- Spots that own their memory: their lists lie where A tells. -/
structure OwnSpots (w : World) (a : Option Addr) (ps : List Spot) (A : Nat → Option Addr) (C : Nat → Nat) : Prop where
  row : OwnL w 72 5 a ps.length (fun k => spotCell (gp ps k) (A k) (C k))
  may : ∀ k, k < ps.length → OwnL w 9 1 (A k) (gp ps k).may.length (strF (gp ps k).may)
  cap : ∀ k, k < ps.length → (gp ps k).may.length ≤ C k
  apart : ∀ k, k < ps.length → ∀ x, InSlot (A k) (gp ps k).may.length x → ¬ InSlot a ps.length x
  each : ∀ i j, i < ps.length → j < ps.length → i ≠ j → ∀ x, InSlot (A i) (gp ps i).may.length x → ¬ InSlot (A j) (gp ps j).may.length x
def InSp (a : Option Addr) (ps : List Spot) (A : Nat → Option Addr) (x : Nat) : Prop := InSlot a ps.length x ∨ ∃ k, k < ps.length ∧ InSlot (A k) (gp ps k).may.length x
theorem OwnSpots.only {B : Nat → Prop} {w w' : World} {a : Option Addr} {ps : List Spot} {A : Nat → Option Addr} {C : Nat → Nat} (h : OwnSpots w a ps A C) (ho : Only B w w') (hB : ∀ x, InSp a ps A x → ¬ B x) : OwnSpots w' a ps A C :=
  ⟨h.row.only ho (fun x hx => hB x (Or.inl hx)), fun k hk => (h.may k hk).only ho (fun x hx => hB x (Or.inr ⟨k, hk, hx⟩)), h.cap, h.apart, h.each⟩
theorem OwnSpots.later {w w' : World} {a : Option Addr} {ps : List Spot} {A : Nat → Option Addr} {C : Nat → Nat} (h : OwnSpots w a ps A C) (hb : Below w.heap.size w w') : OwnSpots w' a ps A C := h.only (Only.of (B := fun _ => False) hb) (fun _ _ => id)
theorem OwnSpots.at_ {w : World} {a : Option Addr} {ps : List Spot} {A : Nat → Option Addr} {C : Nat → Nat} (h : OwnSpots w a ps A C) : SpotsAt w a ps :=
  ⟨A, C, h.row.rowAt, fun k hk => (h.may k hk).rowAt, h.cap⟩
theorem OwnSpots.lt {w : World} {a : Option Addr} {ps : List Spot} {A : Nat → Option Addr} {C : Nat → Nat} (h : OwnSpots w a ps A C) {x : Nat} (hx : InSp a ps A x) : x < w.heap.size := by
  rcases hx with hx | ⟨k, hk, hx⟩
  · exact h.row.lt hx
  · exact (h.may k hk).lt hx

/-- The lists of a part: how long, what they hold. -/
def pL (p : Part) : Nat → Nat
  | 0 => p.want.stuffs.length
  | 1 => p.want.uses.length
  | 2 => p.want.opens.length
  | _ => p.want.shuts.length
def pF (p : Part) : Nat → Nat → Nat → Value
  | 0 => strF p.want.stuffs
  | 1 => useF p.want.uses
  | 2 => strF p.want.opens
  | _ => strF p.want.shuts
/-- Parts that own their memory: list c of part k lies where A tells. -/
structure OwnParts (w : World) (a : Option Addr) (ps : List Part) (A : Nat → Nat → Option Addr) (C : Nat → Nat → Nat) : Prop where
  row : OwnL w 61 7 a ps.length (fun k => partCell (gq ps k) (fun f => A k (f - 2)) (fun f => C k (f - 2)))
  list : ∀ k, k < ps.length → ∀ c, c < 4 → OwnL w (tS c) (sS c) (A k c) (pL (gq ps k) c) (pF (gq ps k) c)
  apart : ∀ k, k < ps.length → ∀ c, c < 4 → ∀ x, InSlot (A k c) (pL (gq ps k) c) x → ¬ InSlot a ps.length x
  each : ∀ i c j d, i < ps.length → c < 4 → j < ps.length → d < 4 → (i ≠ j ∨ c ≠ d) → ∀ x, InSlot (A i c) (pL (gq ps i) c) x → ¬ InSlot (A j d) (pL (gq ps j) d) x
def InPt (a : Option Addr) (ps : List Part) (A : Nat → Nat → Option Addr) (x : Nat) : Prop := InSlot a ps.length x ∨ ∃ k, k < ps.length ∧ ∃ c, c < 4 ∧ InSlot (A k c) (pL (gq ps k) c) x
theorem OwnParts.only {B : Nat → Prop} {w w' : World} {a : Option Addr} {ps : List Part} {A : Nat → Nat → Option Addr} {C : Nat → Nat → Nat} (h : OwnParts w a ps A C) (ho : Only B w w') (hB : ∀ x, InPt a ps A x → ¬ B x) : OwnParts w' a ps A C :=
  ⟨h.row.only ho (fun x hx => hB x (Or.inl hx)), fun k hk c hc => (h.list k hk c hc).only ho (fun x hx => hB x (Or.inr ⟨k, hk, c, hc, hx⟩)), h.apart, h.each⟩
theorem OwnParts.later {w w' : World} {a : Option Addr} {ps : List Part} {A : Nat → Nat → Option Addr} {C : Nat → Nat → Nat} (h : OwnParts w a ps A C) (hb : Below w.heap.size w w') : OwnParts w' a ps A C := h.only (Only.of (B := fun _ => False) hb) (fun _ _ => id)
theorem OwnParts.at_ {w : World} {a : Option Addr} {ps : List Part} {A : Nat → Nat → Option Addr} {C : Nat → Nat → Nat} (h : OwnParts w a ps A C) : PartsAt w a ps :=
  ⟨fun k f => A k (f - 2), fun k f => C k (f - 2), h.row.rowAt, fun k hk => ⟨(h.list k hk 0 (by omega)).rowAt, (h.list k hk 1 (by omega)).rowAt, (h.list k hk 2 (by omega)).rowAt, (h.list k hk 3 (by omega)).rowAt⟩⟩
theorem OwnParts.lt {w : World} {a : Option Addr} {ps : List Part} {A : Nat → Nat → Option Addr} {C : Nat → Nat → Nat} (h : OwnParts w a ps A C) {x : Nat} (hx : InPt a ps A x) : x < w.heap.size := by
  rcases hx with hx | ⟨k, hk, c, hc, hx⟩
  · exact h.row.lt hx
  · exact (h.list k hk c hc).lt hx

/-- A book that owns its memory. -/
structure OwnBook (w : World) (x : Book) (af ap av aq : Option Addr) (A1 : Nat → Option Addr) (C1 : Nat → Nat) (A2 : Nat → Nat → Option Addr) (C2 : Nat → Nat → Nat) : Prop where
  foes : OwnL w 70 2 af x.foes.length (foeF x.foes)
  spots : OwnSpots w ap x.spots A1 C1
  valves : OwnL w 9 1 av x.valves.length (strF x.valves)
  parts : OwnParts w aq x.parts A2 C2
  d01 : ∀ y, InSlot af x.foes.length y → ¬ InSp ap x.spots A1 y
  d02 : ∀ y, InSlot af x.foes.length y → ¬ InSlot av x.valves.length y
  d03 : ∀ y, InSlot af x.foes.length y → ¬ InPt aq x.parts A2 y
  d12 : ∀ y, InSp ap x.spots A1 y → ¬ InSlot av x.valves.length y
  d13 : ∀ y, InSp ap x.spots A1 y → ¬ InPt aq x.parts A2 y
  d23 : ∀ y, InSlot av x.valves.length y → ¬ InPt aq x.parts A2 y
/-- The blocks of such a book. -/
def InBk (x : Book) (af ap av aq : Option Addr) (A1 : Nat → Option Addr) (A2 : Nat → Nat → Option Addr) (y : Nat) : Prop :=
  InSlot af x.foes.length y ∨ InSp ap x.spots A1 y ∨ InSlot av x.valves.length y ∨ InPt aq x.parts A2 y
theorem OwnBook.only {B : Nat → Prop} {w w' : World} {x : Book} {af ap av aq : Option Addr} {A1 : Nat → Option Addr} {C1 : Nat → Nat} {A2 : Nat → Nat → Option Addr} {C2 : Nat → Nat → Nat} (h : OwnBook w x af ap av aq A1 C1 A2 C2) (ho : Only B w w') (hB : ∀ y, InBk x af ap av aq A1 A2 y → ¬ B y) : OwnBook w' x af ap av aq A1 C1 A2 C2 :=
  ⟨h.foes.only ho (fun y hy => hB y (Or.inl hy)), h.spots.only ho (fun y hy => hB y (Or.inr (Or.inl hy))), h.valves.only ho (fun y hy => hB y (Or.inr (Or.inr (Or.inl hy)))), h.parts.only ho (fun y hy => hB y (Or.inr (Or.inr (Or.inr hy)))), h.d01, h.d02, h.d03, h.d12, h.d13, h.d23⟩
theorem OwnBook.later {w w' : World} {x : Book} {af ap av aq : Option Addr} {A1 : Nat → Option Addr} {C1 : Nat → Nat} {A2 : Nat → Nat → Option Addr} {C2 : Nat → Nat → Nat} (h : OwnBook w x af ap av aq A1 C1 A2 C2) (hb : Below w.heap.size w w') : OwnBook w' x af ap av aq A1 C1 A2 C2 := h.only (Only.of (B := fun _ => False) hb) (fun _ _ => id)
theorem OwnBook.in_ {w : World} {x : Book} {af ap av aq : Option Addr} {A1 : Nat → Option Addr} {C1 : Nat → Nat} {A2 : Nat → Nat → Option Addr} {C2 : Nat → Nat → Nat} (h : OwnBook w x af ap av aq A1 C1 A2 C2) : BookIn w x af ap av aq := ⟨h.foes.rowAt, h.spots.at_, h.valves.rowAt, h.parts.at_⟩
theorem OwnBook.lt {w : World} {x : Book} {af ap av aq : Option Addr} {A1 : Nat → Option Addr} {C1 : Nat → Nat} {A2 : Nat → Nat → Option Addr} {C2 : Nat → Nat → Nat} (h : OwnBook w x af ap av aq A1 C1 A2 C2) {y : Nat} (hy : InBk x af ap av aq A1 A2 y) : y < w.heap.size := by
  rcases hy with hy | hy | hy | hy
  · exact h.foes.lt hy
  · exact h.spots.lt hy
  · exact h.valves.lt hy
  · exact h.parts.lt hy

/-- What the marks want of spots and parts that own their memory. -/
theorem OwnSpots.own {w : World} {a : Option Addr} {ps : List Spot} {A : Nat → Option Addr} {C : Nat → Nat} (h : OwnSpots w a ps A C) (hn : ps.length ≠ 0) : ∃ b l, a = some ⟨b, 0, none⟩ ∧ SpotsOwn w b l ps.length A (fun k => (gp ps k).may.length) C := by
  rcases h.row with e | ⟨b, l, rfl, hr, hl, hc⟩
  · exact absurd e hn
  · exact ⟨b, l, rfl, hr, hl, fun i hi => hc i hi 4 (by omega), fun i hi => (h.may i hi).slot, fun i hi hx => h.apart i hi b hx ⟨hn, 0, rfl⟩, h.each⟩
theorem OwnParts.own {w : World} {a : Option Addr} {ps : List Part} {A : Nat → Nat → Option Addr} {C : Nat → Nat → Nat} (h : OwnParts w a ps A C) (hn : ps.length ≠ 0) : ∃ b l, a = some ⟨b, 0, none⟩ ∧ PartsOwn w b l ps.length A (fun k => pL (gq ps k)) C := by
  rcases h.row with e | ⟨b, l, rfl, hr, hl, hc⟩
  · exact absurd e hn
  · refine ⟨b, l, rfl, hr, hl, fun i hi c hc4 => ?_, fun i hi c hc4 => (h.list i hi c hc4).slot, fun i hi c hc4 hx => h.apart i hi c hc4 b hx ⟨hn, 0, rfl⟩, h.each⟩
    match c, hc4 with
    | 0, _ => exact hc i hi 2 (by omega)
    | 1, _ => exact hc i hi 3 (by omega)
    | 2, _ => exact hc i hi 4 (by omega)
    | 3, _ => exact hc i hi 5 (by omega)

end Go.Proofs.YtfmhkicncgccjaaGreat

/- Lists that own their memory, out of rows that have grown. -/
namespace Go.Proofs.YtfmhkicncgccjaaGreat
open Go.RowKit Go.Sort
set_option linter.unusedSimpArgs false
set_option linter.unusedVariables false

def intF (l : List Int) (k : Nat) (_ : Nat) : Value := .int .i64 (l.getD k 0)
theorem Row.grown {w w' : World} {b : Nat} {t : TypeId} {l : List Value} {g : Option Nat} (h : Row w b t l) (hg : w.grownBy w' g) (hn : some b ≠ g) : Row w' b t l := (hg.block b h.lt hn).trans h

/-- The cells of n elements of s cells, one behind the other. -/
def flat (n s : Nat) (f : Nat → Nat → Value) : List Value := (List.range (n * s)).map fun q => f (q / s) (q % s)
theorem flat_length (n s : Nat) (f : Nat → Nat → Value) : (flat n s f).length = n * s := by simp [flat]
theorem flat_at {n s : Nat} (f : Nat → Nat → Value) {k j : Nat} (hk : k < n) (hj : j < s) : (flat n s f)[k * s + j]? = some (f k j) := by
  have h : k * s + j < n * s := by
    have h1 : (k + 1) * s ≤ n * s := Nat.mul_le_mul_right s hk
    rw [Nat.add_mul, Nat.one_mul] at h1
    omega
  have e1 : (k * s + j) / s = k := by
    rw [Nat.mul_comm, Nat.mul_add_div (by omega), Nat.div_eq_of_lt hj, Nat.add_zero]
  have e2 : (k * s + j) % s = j := by
    rw [Nat.mul_comm, Nat.mul_add_mod, Nat.mod_eq_of_lt hj]
  simp [flat, h, e1, e2]
theorem flat_news {w : World} {ad : Addr} {n s : Nat} {f : Nat → Nat → Value} (h : RowAt w (some ad) n s f) : ∀ j u, (flat n s f)[j]? = some u → w.cell? (ad.add j) = some u := by
  intro j u hu
  obtain ⟨hj, hu'⟩ := List.getElem?_eq_some_iff.1 hu
  rw [flat_length] at hj
  have hs : 0 < s := by
    rcases Nat.eq_zero_or_pos s with h0 | h0
    · subst h0; simp at hj
    · exact h0
  have hk : j / s < n := (Nat.div_lt_iff_lt_mul hs).2 hj
  obtain ⟨b, o, ha, hb, hc⟩ := h (j / s) hk
  cases ha
  have := hc (j % s) (Nat.mod_lt _ hs)
  rw [Nat.add_assoc, Nat.mul_comm, Nat.div_add_mod] at this
  rw [Addr.add_lit, this, ← hu']
  simp [flat]
theorem flat_one {n s : Nat} {f : Nat → Nat → Value} (hf : ∀ k j, (f k j).oneCell' = true) : ∀ u ∈ flat n s f, u.oneCell' = true := by
  intro u hu
  simp only [flat, List.mem_map] at hu
  obtain ⟨q, _, rfl⟩ := hu
  exact hf _ _
theorem OwnL.of_owns {w : World} {base : Nat} {e : TypeId} {s : Nat} {v : Value} {n : Nat} {f : Nat → Nat → Value} (h : w.ownsRow base e s v n (flat n s f)) : ∃ a c, v = .slice a n c ∧ OwnL w e s a n f ∧ (∀ x, InSlot a n x → base ≤ x) ∧ n ≤ c := by
  obtain ⟨_, h⟩ := h
  rcases h with ⟨rfl, rfl⟩ | ⟨g, cap, cur, rfl, hb, hcell, hn, _, hsz, htk⟩
  · exact ⟨none, 0, rfl, Or.inl rfl, fun x hx => absurd rfl hx.1, Nat.le_refl _⟩
  · refine ⟨some ⟨g, 0, none⟩, cap, rfl, Or.inr ⟨g, cur.toList, rfl, ?_, ?_, fun k hk j hj => ?_⟩, fun x hx => ?_, hn⟩
    · unfold Row
      rw [hcell]
    · simp only [Array.length_toList, hsz]
      exact Nat.mul_le_mul_right s hn
    · rw [← flat_at f hk hj, ← htk]
      rw [List.getElem?_take_of_lt]
      have h1 : (k + 1) * s ≤ n * s := Nat.mul_le_mul_right s hk
      rw [Nat.add_mul, Nat.one_mul] at h1
      omega
    · have := inSlot_some hx
      omega

end Go.Proofs.YtfmhkicncgccjaaGreat

/- Lists whose room is known: what an append may lean on. -/
namespace Go.Proofs.YtfmhkicncgccjaaGreat
open Go.RowKit Go.Sort
set_option linter.unusedSimpArgs false
set_option linter.unusedVariables false

theorem Row.same {w : World} {b : Nat} {t t' : TypeId} {l l' : List Value} (h : Row w b t l) (h' : Row w b t' l') : l = l' := by
  unfold Row at h h'
  rw [h] at h'
  simp only [Option.some.injEq, Obj.cells.injEq] at h'
  have := congrArg Array.toList h'.1
  simpa using this
/-- The room of a list: c elements of s cells, all of its block. -/
def CapOf (w : World) (t : TypeId) (s : Nat) (a : Option Addr) (n c : Nat) : Prop :=
  (n = 0 ∧ a = none ∧ c = 0) ∨ ∃ b l, a = some ⟨b, 0, none⟩ ∧ Row w b t l ∧ l.length = c * s ∧ n ≤ c ∧ c ≤ maxLen
/-- The block of a list, whether it is empty or not. -/
def InAddr (a : Option Addr) (y : Nat) : Prop := ∃ o, a = some ⟨y, o, none⟩
theorem InAddr.of {a : Option Addr} {n y : Nat} (h : InSlot a n y) : InAddr a y := h.2
theorem CapOf.only {B : Nat → Prop} {w w' : World} {t : TypeId} {s : Nat} {a : Option Addr} {n c : Nat} (h : CapOf w t s a n c) (ho : Only B w w') (hB : ∀ y, InAddr a y → ¬ B y) : CapOf w' t s a n c := by
  rcases h with h | ⟨b, l, rfl, hr, hl, hn, hm⟩
  · exact Or.inl h
  · exact Or.inr ⟨b, l, rfl, hr.only ho (hB b ⟨0, rfl⟩), hl, hn, hm⟩
theorem CapOf.later {w w' : World} {t : TypeId} {s : Nat} {a : Option Addr} {n c : Nat} (h : CapOf w t s a n c) (hb : Below w.heap.size w w') : CapOf w' t s a n c := h.only (Only.of (B := fun _ => False) hb) (fun _ _ => id)
theorem CapOf.lt {w : World} {t : TypeId} {s : Nat} {a : Option Addr} {n c : Nat} (h : CapOf w t s a n c) {y : Nat} (hy : InAddr a y) : y < w.heap.size := by
  obtain ⟨o, rfl⟩ := hy
  rcases h with ⟨_, h, _⟩ | ⟨b, l, e, hr, hl, hn, hm⟩
  · cases h
  · cases e
    exact hr.lt
theorem CapOf.le {w : World} {t : TypeId} {s : Nat} {a : Option Addr} {n c : Nat} (h : CapOf w t s a n c) : n ≤ c := by
  rcases h with ⟨h, _, h'⟩ | ⟨b, l, e, hr, hl, hn, hm⟩
  · omega
  · exact hn
/-- A block of a list that has changed its cells keeps its room. -/
theorem CapOf.cells {w w' : World} {t : TypeId} {s : Nat} {b n c : Nat} {l l' : List Value} (h : CapOf w t s (some ⟨b, 0, none⟩) n c) (hr : Row w b t l) (hr' : Row w' b t l') (hl : l'.length = l.length) : CapOf w' t s (some ⟨b, 0, none⟩) n c := by
  rcases h with ⟨_, h, _⟩ | ⟨b', l0, e, hr0, hl0, hn, hm⟩
  · cases h
  · cases e
    exact Or.inr ⟨b, l', rfl, hr', by rw [hl, ← hl0, hr0.same hr], hn, hm⟩
theorem CapOf.take {w : World} {t : TypeId} {s : Nat} {a : Option Addr} {n c : Nat} (h : CapOf w t s a n c) {m : Nat} (hm : m ≤ n) : CapOf w t s a m c := by
  rcases h with ⟨h1, h2, h3⟩ | ⟨b, l, e, hr, hl, hn, hM⟩
  · exact Or.inl ⟨by omega, h2, h3⟩
  · exact Or.inr ⟨b, l, e, hr, hl, by omega, hM⟩
theorem OwnL.take {w : World} {t : TypeId} {s : Nat} {a : Option Addr} {n : Nat} {f : Nat → Nat → Value} (h : OwnL w t s a n f) {m : Nat} (hm : m ≤ n) : OwnL w t s a m f := by
  rcases h with h | ⟨b, l, e, hr, hl, hc⟩
  · exact Or.inl (by omega)
  · exact Or.inr ⟨b, l, e, hr, Nat.le_trans (Nat.mul_le_mul_right s hm) hl, fun k hk => hc k (by omega)⟩
theorem OwnL.congr {w : World} {t : TypeId} {s : Nat} {a : Option Addr} {n : Nat} {f g : Nat → Nat → Value} (h : OwnL w t s a n f) (hg : ∀ k, k < n → ∀ j, j < s → f k j = g k j) : OwnL w t s a n g := by
  rcases h with h | ⟨b, l, e, hr, hl, hc⟩
  · exact Or.inl h
  · exact Or.inr ⟨b, l, e, hr, hl, fun k hk j hj => by rw [hc k hk j hj, hg k hk j hj]⟩

/-- A list that owns its memory, its room known, is a row that an append may grow. -/
theorem OwnL.owns {w : World} {t : TypeId} {s : Nat} {a : Option Addr} {n c : Nat} {f : Nat → Nat → Value} {base : Nat} (h : OwnL w t s a n f) (hc : CapOf w t s a n c) (hb : ∀ y, InAddr a y → base ≤ y) : w.ownsRow base t s (.slice a n c) n (flat n s f) := by
  refine ⟨flat_length _ _ _, ?_⟩
  rcases hc with ⟨rfl, rfl, rfl⟩ | ⟨b, l, rfl, hr, hl, hn, hm⟩
  · exact Or.inl ⟨rfl, rfl⟩
  · refine Or.inr ⟨b, c, l.toArray, rfl, hb b ⟨0, rfl⟩, hr, hn, hm, by simpa using hl, ?_⟩
    apply List.ext_getElem?
    intro q
    by_cases hq : q < n * s
    · have hs : 0 < s := by
        rcases Nat.eq_zero_or_pos s with h0 | h0
        · subst h0; simp at hq
        · exact h0
      have hk : q / s < n := (Nat.div_lt_iff_lt_mul hs).2 hq
      rcases h with h | ⟨b', l', e, hr', hl', hc'⟩
      · subst h; exact absurd hk (Nat.not_lt_zero _)
      · cases e
        have e1 := hc' (q / s) hk (q % s) (Nat.mod_lt _ hs)
        have e2 := flat_at f hk (Nat.mod_lt q hs)
        have e3 : q / s * s + q % s = q := by rw [Nat.mul_comm]; exact Nat.div_add_mod q s
        rw [e3] at e1 e2
        rw [List.getElem?_take_of_lt hq, e2, hr.same hr', e1]
    · rw [List.getElem?_eq_none (by simp; omega), List.getElem?_eq_none (by rw [flat_length]; omega)]

/-- What a grown row gives. -/
theorem OwnL.of_owns2 {w : World} {base : Nat} {e : TypeId} {s : Nat} {v : Value} {n : Nat} {f : Nat → Nat → Value} (h : w.ownsRow base e s v n (flat n s f)) : ∃ a c, v = .slice a n c ∧ OwnL w e s a n f ∧ CapOf w e s a n c ∧ ∀ y, InAddr a y → base ≤ y := by
  obtain ⟨_, h⟩ := h
  rcases h with ⟨rfl, rfl⟩ | ⟨g, cap, cur, rfl, hb, hcell, hn, hm, hsz, htk⟩
  · exact ⟨none, 0, rfl, Or.inl rfl, Or.inl ⟨rfl, rfl, rfl⟩, fun y hy => by obtain ⟨o, h⟩ := hy; cases h⟩
  · have hrow : Row w g e cur.toList := by unfold Row; rw [hcell]
    refine ⟨some ⟨g, 0, none⟩, cap, rfl, Or.inr ⟨g, cur.toList, rfl, hrow, ?_, fun k hk j hj => ?_⟩, Or.inr ⟨g, cur.toList, rfl, hrow, by simpa using hsz, hn, hm⟩, fun y hy => ?_⟩
    · simp only [Array.length_toList, hsz]
      exact Nat.mul_le_mul_right s hn
    · rw [← flat_at f hk hj, ← htk]
      rw [List.getElem?_take_of_lt]
      have h1 : (k + 1) * s ≤ n * s := Nat.mul_le_mul_right s hk
      rw [Nat.add_mul, Nat.one_mul] at h1
      omega
    · obtain ⟨o, h⟩ := hy
      cases h
      exact hb
/-- The cells of one list behind those of another. -/
theorem flat_append {n m s : Nat} {f g h : Nat → Nat → Value} (hf : ∀ k, k < n → ∀ j, j < s → h k j = f k j) (hg : ∀ k, k < m → ∀ j, j < s → h (n + k) j = g k j) : flat n s f ++ flat m s g = flat (n + m) s h := by
  apply List.ext_getElem?
  intro q
  rcases Nat.eq_zero_or_pos s with h0 | hs
  · subst h0; simp [flat]
  have hm := Nat.mod_lt q hs
  have e3 : q / s * s + q % s = q := by rw [Nat.mul_comm]; exact Nat.div_add_mod q s
  by_cases h1 : q < n * s
  · have hk : q / s < n := (Nat.div_lt_iff_lt_mul hs).2 h1
    rw [List.getElem?_append_left (by rw [flat_length]; exact h1)]
    have a1 := flat_at f hk hm
    have a2 := flat_at h (n := n + m) (k := q / s) (by omega) hm
    rw [e3] at a1 a2
    rw [a1, a2, hf _ hk _ hm]
  · rw [List.getElem?_append_right (by rw [flat_length]; omega), flat_length]
    by_cases h2 : q < (n + m) * s
    · have hkq : q / s < n + m := (Nat.div_lt_iff_lt_mul hs).2 h2
      have hnk : n ≤ q / s := (Nat.le_div_iff_mul_le hs).2 (by omega)
      have e4 : q - n * s = (q / s - n) * s + q % s := by
        rw [Nat.sub_mul]
        have := Nat.mul_le_mul_right s hnk
        omega
      have a1 := flat_at g (n := m) (k := q / s - n) (by omega) hm
      have a2 := flat_at h (n := n + m) (k := q / s) hkq hm
      rw [e3] at a2
      rw [e4, a1, a2, ← hg _ (by omega) _ hm]
      rw [show n + (q / s - n) = q / s by omega]
    · rw [List.getElem?_eq_none (by rw [flat_length, Nat.le_sub_iff_add_le (by omega)]; rw [Nat.add_mul] at h2; omega), List.getElem?_eq_none (by rw [flat_length]; omega)]

end Go.Proofs.YtfmhkicncgccjaaGreat

/- ClaimCode as a plain function of plain data. -/
namespace Go.Proofs.YtfmhkicncgccjaaGreat
open Go.RowKit Go.Sort
set_option linter.unusedSimpArgs false
set_option linter.unusedVariables false

/-- Any of some stuffs is a foe of any of others. -/
def clashesB (fs : List Foe) (xs ys : List ByteArray) : Bool := anyTo xs.length (fun i => clashB fs (gs xs i) ys)
def countTo : Nat → (Nat → Bool) → Nat
  | 0, _ => 0
  | n + 1, p => countTo n p + (if p n then 1 else 0)
theorem countTo_le (p : Nat → Bool) : ∀ n, countTo n p ≤ n
  | 0 => Nat.le_refl _
  | n + 1 => by
    have := countTo_le p n
    unfold countTo
    split <;> omega
/-- How many different names two lists have. -/
def unionN (a b : List ByteArray) : Nat := a.length + countTo b.length (fun i => !hasB a (gs b i))

/-- The place of the part of this number, -1 if there is none. -/
def partFrom (ps : List Part) (n : Int) : Nat → Nat → Int
  | _, 0 => -1
  | k, m + 1 => if (gq ps k).want.number == n then (k : Int) else partFrom ps n (k + 1) m
def partI (ps : List Part) (n : Int) : Int := partFrom ps n 0 ps.length

theorem partFrom_all {ps : List Part} {s : Int} : ∀ (n k : Nat), (∀ i, k ≤ i → i < k + n → ((gq ps i).want.number == s) = false) → partFrom ps s k n = -1
  | 0, _, _ => rfl
  | n + 1, k, h => by
    unfold partFrom
    rw [h k (Nat.le_refl _) (by omega)]
    exact partFrom_all n (k + 1) (fun i h1 h2 => h i (by omega) (by omega))
theorem partFrom_hit {ps : List Part} {s : Int} {j : Nat} : ∀ (n k : Nat), k ≤ j → j < k + n → (∀ i, k ≤ i → i < j → ((gq ps i).want.number == s) = false) → ((gq ps j).want.number == s) = true → partFrom ps s k n = j
  | 0, k, h1, h2, _, _ => by omega
  | n + 1, k, h1, h2, h, hj => by
    unfold partFrom
    by_cases e : k = j
    · subst e; rw [hj]; rfl
    · rw [h k (Nat.le_refl _) (by omega)]
      exact partFrom_hit n (k + 1) (by omega) (by omega) (fun i a b => h i (by omega) b) hj
theorem partI_hit {ps : List Part} {s : Int} {j : Nat} (hj : j < ps.length) (h : allTo j (fun i => !((gq ps i).want.number == s)) = true) (he : ((gq ps j).want.number == s) = true) : partI ps s = j :=
  partFrom_hit ps.length 0 (Nat.zero_le _) (by omega) (fun i _ hi => by simpa using allTo_iff.1 h i hi) he
theorem partI_none {ps : List Part} {s : Int} (h : allTo ps.length (fun i => !((gq ps i).want.number == s)) = true) : partI ps s = -1 :=
  partFrom_all ps.length 0 (fun i _ hi => by simpa using allTo_iff.1 h i (by omega))
theorem partI_cases (ps : List Part) (s : Int) : (partI ps s = -1 ∧ allTo ps.length (fun i => !((gq ps i).want.number == s)) = true) ∨ ∃ j, j < ps.length ∧ partI ps s = (j : Int) ∧ ((gq ps j).want.number == s) = true ∧ allTo j (fun i => !((gq ps i).want.number == s)) = true := by
  have : ∀ n, n ≤ ps.length → allTo n (fun i => !((gq ps i).want.number == s)) = true ∨ ∃ j, j < n ∧ ((gq ps j).want.number == s) = true ∧ allTo j (fun i => !((gq ps i).want.number == s)) = true := by
    intro n
    induction n with
    | zero => intro _; exact Or.inl rfl
    | succ n ih =>
      intro hn
      rcases ih (by omega) with h | ⟨j, h1, h2, h3⟩
      · cases e : ((gq ps n).want.number == s) with
        | true => exact Or.inr ⟨n, by omega, e, h⟩
        | false => exact Or.inl (allTo_succ h (by simp [e]))
      · exact Or.inr ⟨j, by omega, h2, h3⟩
  rcases this ps.length (Nat.le_refl _) with h | ⟨j, h1, h2, h3⟩
  · exact Or.inl ⟨partI_none h, h⟩
  · exact Or.inr ⟨j, h1, partI_hit h1 h3 h2, h2, h3⟩

/-- Two wants are the same. -/
def sameB (a b : Want) : Bool := a.number == b.number && a.kind == b.kind && eqSS a.stuffs b.stuffs && eqUU a.uses b.uses && eqSS a.opens b.opens && eqSS a.shuts b.shuts

/-- The first of some numbers that is not 0. -/
def firstTo : Nat → (Nat → Int) → Int
  | 0, _ => 0
  | n + 1, p => if firstTo n p = 0 then p n else firstTo n p
def zerosTo (n : Nat) (p : Nat → Int) : Bool := allTo n (fun i => p i == 0)
theorem firstTo_zeros {p : Nat → Int} : ∀ {n : Nat}, zerosTo n p = true → firstTo n p = 0
  | 0, _ => rfl
  | n + 1, h => by
    unfold zerosTo allTo at h
    rw [Bool.and_eq_true] at h
    have h1 := firstTo_zeros (n := n) h.1
    have h2 : p n = 0 := by simpa using h.2
    simp [firstTo, h1, h2]
theorem firstTo_hit {p : Nat → Int} {k : Nat} (h : zerosTo k p = true) (hk : p k ≠ 0) : ∀ {n : Nat}, k < n → firstTo n p = p k
  | 0, h0 => absurd h0 (Nat.not_lt_zero _)
  | n + 1, hn => by
    by_cases e : k = n
    · subst e
      simp [firstTo, firstTo_zeros h]
    · have := firstTo_hit h hk (n := n) (by omega)
      simp [firstTo, this, hk]
theorem zerosTo_succ {n : Nat} {p : Nat → Int} (h : zerosTo n p = true) (hn : p n = 0) : zerosTo (n + 1) p = true := allTo_succ h (by simp [hn])

/-- The spot of this name. -/
def spotOf (x : Book) (s : ByteArray) : Spot := spotAtI x.spots (spotI x.spots s)
/-- The code of what meets in a place. -/
def mayCode (fs : List Foe) (s : Spot) (y : Want) (u : Use) : Int :=
  if u.role == 2 then (if clashesB fs y.stuffs s.may then 8 else if 8 < unionN s.may y.stuffs then 5 else 0)
  else if allB s.may y.stuffs then 0 else 8
/-- The code of what is in a place. -/
def amtCode (s : Spot) (y : Want) (u : Use) : Int :=
  if u.role == 1 && decide (s.least < u.amount) then 9 else if u.role == 2 && decide (s.cap < s.most + u.amount) then 10 else if y.kind == 2 && decide (0 < s.most) then 11 else 0
def mayAt (x : Book) (y : Want) (i : Nat) : Int := mayCode x.foes (spotOf x (gu y.uses i).name) y (gu y.uses i)
def amtAt (x : Book) (y : Want) (i : Nat) : Int := amtCode (spotOf x (gu y.uses i).name) y (gu y.uses i)
def stuffsC (x : Book) (y : Want) : Int :=
  if clashesB x.foes y.stuffs y.stuffs then 8 else if y.kind == 1 then firstTo y.uses.length (mayAt x y) else 0
def amountsC (x : Book) (y : Want) : Int := firstTo y.uses.length (amtAt x y)
/-- A part uses a place of the want. -/
def usedByB (x : Book) (y : Want) : Bool := anyTo x.parts.length (fun i => shareB (usesN y) (usesN (gq x.parts i).want))
/-- A part crosses the want. -/
def crossedB (x : Book) (y : Want) : Bool := anyTo x.parts.length (fun i => crossB y (gq x.parts i).want)
/-- The code behind the looks at the book, the want and its number. -/
def laterC (x : Book) (y : Want) : Int :=
  if 6 ≤ x.parts.length then 5 else if usedByB x y then 6 else if crossedB x y then 7 else if stuffsC x y = 0 then amountsC x y else stuffsC x y
def numberC (x : Book) (y : Want) : Int :=
  if 0 ≤ partI x.parts y.number then (if sameB (gq x.parts (partI x.parts y.number).toNat).want y then 0 else 3) else if y.number ≤ x.seen then 4 else laterC x y
def codeC (x : Book) (y : Want) : Int :=
  if bookB x then (if wantB y && knowsB x y then numberC x y else 2) else 1

end Go.Proofs.YtfmhkicncgccjaaGreat

/- What the specification's l2Part, l1Alike, l1Same, l2Clashes and l3Union answer. -/
namespace Go.Proofs.YtfmhkicncgccjaaGreat
open Go.RowKit Go.Sort
set_option linter.unusedSimpArgs false
set_option linter.unusedVariables false

theorem ret_int {a b : Int} (h : a = b) : Ending.returned (.int .i64 a) = .returned (.int .i64 b) := by rw [h]

set_option maxHeartbeats 1000000 in
theorem l2Part_any (x : Book) (af ap av aq : Option Addr) (cf cp cv cq : Nat) (s : Int) (w : World) (hm : PartsAt w aq x.parts) (hl : x.parts.length ≤ maxLen) :
    Calls Tryz.prog 36 #[bookV x af ap av aq cf cp cv cq, .int .i64 s] w fun e w' => e = .returned (.int .i64 (partI x.parts s)) ∧ Below w.heap.size w w' := by
  unfold maxLen at hl
  unfold bookV
  go_enter Tryz.func36, Tryz.ntmps36
  go_wp2
  go_loop [5] (fun i => ∃ (k : Nat), k ≤ x.parts.length ∧ i = .int .i64 k ∧ allTo k (fun i => !((gq x.parts i).want.number == s)) = true) (fun i => x.parts.length - (intOf i).toNat)
  case atStart => exact ⟨0, Nat.zero_le _, rfl, rfl⟩
  case round =>
    obtain ⟨k, hk, rfl, hall⟩ := hrel
    by_cases hlt : k < x.parts.length
    · obtain ⟨b, o, a2, a3, a4, a5, c2, c3, c4, c5, ha, hb, hc0, -⟩ := hm.at hlt
      subst ha
      have hne : b ≠ w.heap.size := by omega
      cases hq : ((gq x.parts k).want.number == s) with
      | true =>
        have hq' : ((gq x.parts k).want.number == s) = true := hq
        go_wp2
        go_ret
        exact ⟨ret_int (partI_hit hlt hall hq).symm, (Below.refl _ _).alloc (Nat.le_refl _) _⟩
      | false =>
        have hq' : ((gq x.parts k).want.number == s) = false := hq
        go_wp2
        go_round
        case rel => exact ⟨k + 1, by omega, by go_num, allTo_succ hall (by simp [hq])⟩
        case measure => simp [intOf]; omega
    · go_wp2
      go_ret
      have : k = x.parts.length := by omega
      subst this
      exact ⟨ret_int (partI_none hall).symm, (Below.refl _ _).alloc (Nat.le_refl _) _⟩

set_option maxHeartbeats 400000 in
theorem l1Alike_any (a b : Option Addr) (ca cb : Nat) (xs ys : List ByteArray) (w : World) (hx : StrsAt w a xs) (hy : StrsAt w b ys) (lx : xs.length ≤ maxLen) :
    Calls Tryz.prog 175 #[.slice a xs.length ca, .slice b ys.length cb] w fun e w' => e = .returned (.bool (eqSS xs ys)) ∧ Below w.heap.size w w' := by
  unfold maxLen at lx
  by_cases hlen : xs.length = ys.length
  · have hl1 : ((xs.length : Int) != (ys.length : Int)) = false := by simp [hlen]
    go_enter Tryz.func175, Tryz.ntmps175
    go_wp2
    go_loopw [5] (fun i wr => ∃ (k : Nat), k ≤ xs.length ∧ i = .int .i64 k ∧ allTo k (fun i => eqS (gs xs i) (gs ys i)) = true ∧ Below w.heap.size w wr) (fun i _ => xs.length - (intOf i).toNat)
    case atStart => exact ⟨0, Nat.zero_le _, rfl, rfl, Below.refl _ _⟩
    case round =>
      obtain ⟨k, hk, rfl, hall, hbel⟩ := hrel
      clear hl1
      by_cases hlt : k < xs.length
      · obtain ⟨b1, o1, ha1, hb1, hc1⟩ := (hx.later hbel).at hlt
        obtain ⟨b2, o2, ha2, hb2, hc2⟩ := (hy.later hbel).at (k := k) (by omega)
        subst ha1 ha2
        have hlt2 : (k : Int) < ys.length := by omega
        have HL : Hid (xs.length = ys.length) := hlen
        clear hlen
        cases hq : eqS (gs xs k) (gs ys k) with
        | true =>
          have hq' : ((gs xs k).toList == (gs ys k).toList) = true := hq
          go_wp2
          go_quiet (fail)
          go_wp2
          go_roundw
          case rel => exact ⟨k + 1, by omega, by go_num, allTo_succ hall hq, below_drewN hbel _⟩
          case measure => simp [intOf]; omega
        | false =>
          have hq' : ((gs xs k).toList == (gs ys k).toList) = false := hq
          go_wp2
          go_quiet (fail)
          go_wp2
          go_ret
          exact ⟨ret_bool (by unfold eqSS; rw [allTo_false k hlt hq, Bool.and_false]), below_drewN hbel _⟩
      · go_wp2
        go_ret
        have : k = xs.length := by omega
        subst this
        exact ⟨ret_bool (by unfold eqSS; rw [hall]; simp [hlen]), hbel⟩
  · have hl1 : ((xs.length : Int) != (ys.length : Int)) = true := by simp; omega
    go_enter Tryz.func175, Tryz.ntmps175
    go_wp2
    go_ret
    exact ⟨ret_bool (by unfold eqSS; simp [hlen]), Below.refl _ _⟩

set_option maxHeartbeats 1000000 in
theorem l2Clashes_any (x : Book) (af ap av aq : Option Addr) (cf cp cv cq : Nat) (a b : Option Addr) (ca cb : Nat) (xs ys : List ByteArray) (w : World) (hm : FoesAt w af x.foes) (hl : x.foes.length ≤ maxLen) (hx : StrsAt w a xs) (hy : StrsAt w b ys) (lx : xs.length ≤ maxLen) (ly : ys.length ≤ maxLen) :
    Calls Tryz.prog 176 #[bookV x af ap av aq cf cp cv cq, .slice a xs.length ca, .slice b ys.length cb] w fun e w' => e = .returned (.bool (clashesB x.foes xs ys)) ∧ Below w.heap.size w w' := by
  have lx' := lx
  unfold maxLen at lx'
  unfold bookV
  go_enter Tryz.func176, Tryz.ntmps176
  go_wp2
  go_loopw [7] (fun i wr => ∃ (k : Nat), k ≤ xs.length ∧ i = .int .i64 k ∧ allTo k (fun i => !clashB x.foes (gs xs i) ys) = true ∧ Below (w.alloc (.cells (bookL x af ap av aq cf cp cv cq).toArray 28)).heap.size (w.alloc (.cells (bookL x af ap av aq cf cp cv cq).toArray 28)) wr) (fun i _ => xs.length - (intOf i).toNat)
  case atStart => exact ⟨0, Nat.zero_le _, rfl, rfl, Below.refl _ _⟩
  case round wr =>
    obtain ⟨k, hk, rfl, hall, hbel⟩ := hrel
    have hbw := below_over hbel
    by_cases hlt : k < xs.length
    · obtain ⟨b1, o, ha, hb, hc⟩ := (hx.later hbw).at hlt
      subst ha
      have row := bookRow hbel
      have r0 := cell_regrown (row.cell 0 rfl)
      have r1 := cell_regrown (row.cell 1 rfl)
      have r2 := cell_regrown (row.cell 2 rfl)
      have r3 := cell_regrown (row.cell 3 rfl)
      have r4 := cell_regrown (row.cell 4 rfl)
      have rc := cell_regrown hc
      have hcall := fun d os => Calls.regrown_of (w := wr) (l2Clash_any x af ap av aq cf cp cv cq (gs xs k) b cb ys (grow (redrawn wr d) os) (hm.later (hbw.trans ((below_regrown wr d os).mono hbw.size))) hl (hy.later (hbw.trans ((below_regrown wr d os).mono hbw.size))) ly)
      unfold bookV at hcall
      have hlt2 : (k : Int) < xs.length := by omega
      clear hc row
      go_wp2
      refine wp_region_quiet_below (by kernel_rfl) (by kernel_rfl) ?_
      repeat (quiet_step (exact hcall _ _))
      refine wpQuiet_nil ?_
      intro w1 hw'
      obtain ⟨⟨dq, osq⟩, hw''⟩ := hw'
      have hbel1 := hbel.trans ((hw'' ▸ below_regrown wr dq osq).mono hbel.size)
      clear hw'' hcall r0 r1 r2 r3 r4 rc
      cases hq : clashB x.foes (gs xs k) ys with
      | true =>
        go_wp2
        go_ret
        exact ⟨ret_bool (anyTo_true k hlt hq).symm, below_over hbel1⟩
      | false =>
        go_wp2
        go_roundw
        case rel => exact ⟨k + 1, by omega, by go_num, allTo_succ hall (by simp [hq]), hbel1⟩
        case measure => simp [intOf]; omega
    · go_wp2
      go_ret
      have : k = xs.length := by omega
      subst this
      exact ⟨ret_bool (anyTo_none hall).symm, hbw⟩

set_option maxHeartbeats 1000000 in
theorem l3Union_any (a b : Option Addr) (ca cb : Nat) (xs ys : List ByteArray) (w : World) (hx : StrsAt w a xs) (hy : StrsAt w b ys) (lx : xs.length ≤ 1000000) (ly : ys.length ≤ 1000000) :
    Calls Tryz.prog 177 #[.slice a xs.length ca, .slice b ys.length cb] w fun e w' => e = .returned (.int .i64 (unionN xs ys)) ∧ Below w.heap.size w w' := by
  have lm : xs.length ≤ maxLen := by unfold maxLen; omega
  go_enter Tryz.func177, Tryz.ntmps177
  go_wp2
  go_loopw [5, 6] (fun n i wr => ∃ (k c : Nat), k ≤ ys.length ∧ n = .int .i64 c ∧ i = .int .i64 k ∧ c = xs.length + countTo k (fun i => !hasB xs (gs ys i)) ∧ Below w.heap.size w wr) (fun _ i _ => ys.length - (intOf i).toNat)
  case atStart => exact ⟨0, xs.length, Nat.zero_le _, rfl, rfl, rfl, Below.refl _ _⟩
  case round wr =>
    obtain ⟨k, c, hk, rfl, rfl, hcnt, hbw⟩ := hrel
    have HC : Hid (c = xs.length + countTo k (fun i => !hasB xs (gs ys i))) := hcnt
    have hcb : c ≤ 2000000 := by have := countTo_le (fun i => !hasB xs (gs ys i)) k; omega
    clear hcnt
    by_cases hlt : k < ys.length
    · obtain ⟨b1, o, ha, hb, hc⟩ := (hy.later hbw).at hlt
      subst ha
      have hlt2 : (k : Int) < ys.length := by omega
      go_wp2_with fail
      refine (l1Has_any a ca xs (gs ys k) _ (hx.later hbw) lm).mono ?_
      rintro e w1 ⟨rfl, rfl⟩
      have hbel1 := hbw
      cases hq : hasB xs (gs ys k) with
      | true =>
        go_wp2
        go_roundw
        case rel => exact ⟨k + 1, c, by omega, rfl, by go_num, by have := HC.out; simp [countTo, hq]; exact this, hbel1⟩
        case measure => simp [intOf]; omega
      | false =>
        go_wp2
        go_roundw
        case rel => exact ⟨k + 1, c + 1, by omega, by go_num, by go_num, by have := HC.out; simp [countTo, hq]; omega, hbel1⟩
        case measure => simp [intOf]; omega
    · go_wp2
      go_ret
      have : k = ys.length := by omega
      subst this
      exact ⟨ret_int (by rw [HC.out]; rfl), hbw⟩

end Go.Proofs.YtfmhkicncgccjaaGreat

/- What the program's partAt answers. -/
namespace Go.Proofs.YtfmhkicncgccjaaGreat
open Go.RowKit Go.Sort
set_option linter.unusedSimpArgs false
set_option linter.unusedVariables false

set_option maxHeartbeats 400000 in
theorem partAt1_any (p : Part) (a2 a3 a4 a5 : Option Addr) (c2 c3 c4 c5 : Nat) (bb : Nat) (n : Int) (w : World) (hc : w.cell? ⟨bb, 0, none⟩ = some (.int .i64 n)) (hbb : bb < w.heap.size) :
    Calls Tryz.prog 77 #[partV p a2 a3 a4 a5 c2 c3 c4 c5, .pointer (some ⟨bb, 0, none⟩)] w fun e w' => e = .returned (.bool (p.want.number == n)) ∧ Below w.heap.size w w' := by
  unfold partV
  have hne : bb ≠ w.heap.size := by omega
  go_enter Tryz.func77, Tryz.ntmps77
  go_wp2
  go_ret
  exact ⟨rfl, (Below.refl _ _).alloc (Nat.le_refl _) _⟩

set_option maxHeartbeats 1000000 in
theorem indexFuncP_any (a : Option Addr) (cap : Nat) (ps : List Part) (bb : Nat) (n : Int) (w : World) (hc : w.cell? ⟨bb, 0, none⟩ = some (.int .i64 n)) (hbb : bb < w.heap.size) (hm : PartsAt w a ps) (hl : ps.length ≤ maxLen) :
    Calls Tryz.prog 76 #[.slice a ps.length cap, .func (.func 77) #[] #[.pointer (some ⟨bb, 0, none⟩)]] w fun e w' => e = .returned (.int .i64 (partI ps n)) ∧ Below w.heap.size w w' := by
  unfold maxLen at hl
  go_enter Tryz.func76, Tryz.ntmps76
  go_wp2
  go_loopw [5, 8] (fun _ i wr => ∃ (k : Nat), k ≤ ps.length ∧ i = .int .i64 k ∧ allTo k (fun i => !((gq ps i).want.number == n)) = true ∧ Below w.heap.size w wr) (fun _ i _ => ps.length - (intOf i).toNat)
  case atStart => exact ⟨0, Nat.zero_le _, rfl, rfl, Below.refl _ _⟩
  case round wr =>
    obtain ⟨k, hk, rfl, hall, hbel⟩ := hrel
    by_cases hlt : k < ps.length
    · obtain ⟨b, o, a2, a3, a4, a5, c2, c3, c4, c5, ha, hb, hc0, hc1, hc2, hc3, hc4, hc5, hc6, -⟩ := (hm.later hbel).at hlt
      subst ha
      have hpc := cell_later hbel hc
      have hbb2 := Nat.lt_of_lt_of_le hbb hbel.size
      go_wp2_with fail
      refine (partAt1_any (gq ps k) a2 a3 a4 a5 c2 c3 c4 c5 bb n _ hpc hbb2).mono ?_
      rintro e w1 ⟨rfl, hb1⟩
      have hb2 := hbel.trans (hb1.mono hbel.size)
      clear hc0 hc1 hc2 hc3 hc4 hc5 hc6
      cases hq : (gq ps k).want.number == n with
      | true =>
        go_wp2
        go_ret
        exact ⟨ret_int (partI_hit hlt hall hq).symm, hb2⟩
      | false =>
        go_wp2
        go_roundw
        case rel => exact ⟨k + 1, by omega, by go_num, allTo_succ hall (by simp [hq]), hb2⟩
        case measure => simp [intOf]; omega
    · go_wp2
      go_ret
      have : k = ps.length := by omega
      subst this
      exact ⟨ret_int (partI_none hall).symm, hbel⟩

set_option maxHeartbeats 1000000 in
theorem partAt_any (a : Option Addr) (cap : Nat) (ps : List Part) (n : Int) (w : World) (hm : PartsAt w a ps) (hl : ps.length ≤ maxLen) :
    Calls Tryz.prog 34 #[.slice a ps.length cap, .int .i64 n] w fun e w' => e = .returned (.int .i64 (partI ps n)) ∧ Below w.heap.size w w' := by
  have b0 : Below w.heap.size w (w.alloc (.cells #[.int .i64 n] 3)) := (Below.refl _ _).alloc (Nat.le_refl _) _
  have i0 := Row.new w 3 [.int .i64 n]
  go_enter Tryz.func34, Tryz.ntmps34
  go_wp2_with fail
  refine (indexFuncP_any a cap ps w.heap.size n _ (i0.cell 0 rfl) i0.lt (hm.later b0) hl).mono ?_
  rintro e w1 ⟨rfl, hb⟩
  go_wp2
  go_ret
  exact ⟨rfl, b0.trans (hb.mono b0.size)⟩

end Go.Proofs.YtfmhkicncgccjaaGreat

