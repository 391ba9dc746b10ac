/- Joined: GrMC, GrM3, GrM5, GrH6, GrM8, GrMB, GrHC, OwD, LawA, GrW. -/
import Derived.Test.YtfmhkicncgccjaaGreatDoorPe02
import Derived.Test.YtfmhkicncgccjaaGreatDoorPe01
import Derived.Deep.RegionHeld3
import Derived.Test.YtfmhkicncgccjaaGreatDoorPe05
/- Marks written into a book, and held there. -/
namespace Go.Proofs.YtfmhkicncgccjaaGreatDoor
open Go.RowKit Go.Sort
set_option linter.unusedSimpArgs false
set_option linter.unusedVariables false


set_option maxHeartbeats 1000000 in
theorem markFoes0 (a : Option Addr) (cap : Nat) (k : Int) (w : World) :
    Calls Tryz.prog 50 #[.slice a 0 cap, .int .i64 k] w fun e w' => e = .returned (.int .i64 k) ∧ w' = w := by
  go_enter Tryz.func50, Tryz.ntmps50
  go_wp2
  go_loopw [1, 5] (fun kk i wv => wv = w ∧ i = .int .i64 0 ∧ kk = .int .i64 k) (fun _ _ _ => 0)
  case atStart => exact ⟨rfl, rfl, rfl⟩
  case round =>
    obtain ⟨rfl, rfl, rfl⟩ := hrel
    go_wp2
    go_ret
    exact ⟨rfl, rfl⟩
set_option maxHeartbeats 1000000 in
theorem markSpots0 (a : Option Addr) (cap : Nat) (k : Int) (w : World) :
    Calls Tryz.prog 51 #[.slice a 0 cap, .int .i64 k] w fun e w' => e = .returned (.int .i64 k) ∧ w' = w := by
  go_enter Tryz.func51, Tryz.ntmps51
  go_wp2
  go_loopw [1, 5] (fun kk i wv => wv = w ∧ i = .int .i64 0 ∧ kk = .int .i64 k) (fun _ _ _ => 0)
  case atStart => exact ⟨rfl, rfl, rfl⟩
  case round =>
    obtain ⟨rfl, rfl, rfl⟩ := hrel
    go_wp2
    go_ret
    exact ⟨rfl, rfl⟩
set_option maxHeartbeats 1000000 in
theorem markParts0 (a : Option Addr) (cap : Nat) (k : Int) (w : World) :
    Calls Tryz.prog 53 #[.slice a 0 cap, .int .i64 k] w fun e w' => e = .returned (.int .i64 k) ∧ w' = w := by
  go_enter Tryz.func53, Tryz.ntmps53
  go_wp2
  go_loopw [1, 5] (fun kk i wv => wv = w ∧ i = .int .i64 0 ∧ kk = .int .i64 k) (fun _ _ _ => 0)
  case atStart => exact ⟨rfl, rfl, rfl⟩
  case round =>
    obtain ⟨rfl, rfl, rfl⟩ := hrel
    go_wp2
    go_ret
    exact ⟨rfl, rfl⟩
theorem markFoeS_any (a : Option Addr) (n cap : Nat) (k : Int) (w : World) (h : Slot w 105 2 a n) (h0 : 0 ≤ k) (h1 : k + n * 2 ≤ 1000000000) :
    Calls Tryz.prog 50 #[.slice a n cap, .int .i64 k] w fun e w' => e = .returned (.int .i64 (k + (n * 2 : Nat))) ∧ SlotG w' 105 2 a n (gFoe k) ∧ Only (InSlot a n) w w' := by
  by_cases hn : n = 0
  · subst hn
    refine (markFoes0 a cap k w).mono ?_
    rintro e w' ⟨rfl, rfl⟩
    exact ⟨by simp, Or.inl rfl, Only.refl _ _⟩
  · rcases h with h | ⟨b, l, rfl, hr, hl⟩
    · exact absurd h hn
    · refine (markFoes_any b n cap l k w hr hl h0 h1).mono ?_
      rintro e w' ⟨rfl, h2, h3⟩
      exact ⟨rfl, Or.inr ⟨b, l, rfl, h2, hl⟩, only_slot h3 hn⟩
/-- Marked spots, marked parts. -/
def SpotsG (w : World) (a : Option Addr) (n : Nat) (A : Nat → Option Addr) (L C : Nat → Nat) (k : Int) : Prop :=
  n = 0 ∨ ∃ b l, a = some ⟨b, 0, none⟩ ∧ Row w b 99 (rowG (gSpot A L C k) (n * 5) l) ∧ ∀ i, i < n → SlotG w 9 1 (A i) (L i) (gFoe (kSp L k i + 4))
def PartsG (w : World) (a : Option Addr) (n : Nat) (A : Nat → Nat → Option Addr) (L C : Nat → Nat → Nat) (k : Int) : Prop :=
  n = 0 ∨ ∃ b l, a = some ⟨b, 0, none⟩ ∧ Row w b 60 (rowG (gPart A L C k) (n * 7) l) ∧ ∀ i, i < n → ∀ d, d < 4 → SlotG w (tS d) (sS d) (A i d) (L i d) (gS d (pS (L i) (kPt L k i) d))
theorem SpotsG.only {B : Nat → Prop} {w w' : World} {a : Option Addr} {n : Nat} {A : Nat → Option Addr} {L C : Nat → Nat} {k : Int} (h : SpotsG w a n A L C k) (ho : Only B w w') (hB : ∀ x, (InSlot a n x ∨ ∃ i, i < n ∧ InSlot (A i) (L i) x) → ¬ B x) : SpotsG w' a n A L C k := by
  rcases h with h | ⟨b, l, rfl, hr, hs⟩
  · exact Or.inl h
  · by_cases hn : n = 0
    · exact Or.inl hn
    · exact Or.inr ⟨b, l, rfl, hr.only ho (hB b (Or.inl ⟨hn, 0, rfl⟩)), fun i hi => (hs i hi).only ho (fun x hx => hB x (Or.inr ⟨i, hi, hx⟩))⟩
theorem PartsG.only {B : Nat → Prop} {w w' : World} {a : Option Addr} {n : Nat} {A : Nat → Nat → Option Addr} {L C : Nat → Nat → Nat} {k : Int} (h : PartsG w a n A L C k) (ho : Only B w w') (hB : ∀ x, (InSlot a n x ∨ ∃ i, i < n ∧ ∃ c, c < 4 ∧ InSlot (A i c) (L i c) x) → ¬ B x) : PartsG w' a n A L C k := by
  rcases h with h | ⟨b, l, rfl, hr, hs⟩
  · exact Or.inl h
  · by_cases hn : n = 0
    · exact Or.inl hn
    · exact Or.inr ⟨b, l, rfl, hr.only ho (hB b (Or.inl ⟨hn, 0, rfl⟩)), fun i hi d hd => (hs i hi d hd).only ho (fun x hx => hB x (Or.inr ⟨i, hi, d, hd, hx⟩))⟩

theorem markSpotS_own (a : Option Addr) (ps : List Spot) (cap : Nat) (A : Nat → Option Addr) (C : Nat → Nat) (k : Int) (w : World) (h : OwnSpots w a ps A C) (h0 : 0 ≤ k) (h1 : kSp (fun i => (gp ps i).may.length) k ps.length ≤ 1000000000) :
    Calls Tryz.prog 51 #[.slice a ps.length cap, .int .i64 k] w fun e w' => e = .returned (.int .i64 (kSp (fun i => (gp ps i).may.length) k ps.length)) ∧ SpotsG w' a ps.length A (fun i => (gp ps i).may.length) C k ∧ Only (InSp a ps A) w w' := by
  by_cases hn : ps.length = 0
  · rw [hn]
    refine (markSpots0 a cap k w).mono ?_
    rintro e w' ⟨rfl, rfl⟩
    exact ⟨rfl, Or.inl rfl, Only.refl _ _⟩
  · obtain ⟨b, l, rfl, ho⟩ := h.own hn
    refine (markSpots_any b ps.length cap l A _ C k w ho h0 h1).mono ?_
    rintro e w' ⟨rfl, h2, h3, h4⟩
    refine ⟨rfl, Or.inr ⟨b, l, rfl, h2, h3⟩, h4.mono fun x hx => ?_⟩
    rcases hx with rfl | ⟨i, hi, hx⟩
    · exact Or.inl ⟨hn, 0, rfl⟩
    · exact Or.inr ⟨i, hi, hx⟩
theorem markPartS_own (a : Option Addr) (ps : List Part) (cap : Nat) (A : Nat → Nat → Option Addr) (C : Nat → Nat → Nat) (k : Int) (w : World) (h : OwnParts w a ps A C) (h0 : 0 ≤ k) (h1 : kPt (fun i => pL (gq ps i)) k ps.length ≤ 1000000000) :
    Calls Tryz.prog 53 #[.slice a ps.length cap, .int .i64 k] w fun e w' => e = .returned (.int .i64 (kPt (fun i => pL (gq ps i)) k ps.length)) ∧ PartsG w' a ps.length A (fun i => pL (gq ps i)) C k ∧ Only (InPt a ps A) w w' := by
  by_cases hn : ps.length = 0
  · rw [hn]
    refine (markParts0 a cap k w).mono ?_
    rintro e w' ⟨rfl, rfl⟩
    exact ⟨rfl, Or.inl rfl, Only.refl _ _⟩
  · obtain ⟨b, l, rfl, ho⟩ := h.own hn
    refine (markParts_any b ps.length cap l A _ C k w ho h0 h1).mono ?_
    rintro e w' ⟨rfl, hm⟩
    refine ⟨rfl, Or.inr ⟨b, l, rfl, hm.row, fun i hi d hd => hm.done i hi d hd (Or.inl hi)⟩, hm.only.mono fun x hx => ?_⟩
    rcases hx with rfl | ⟨i, hi, c, hc, hx⟩
    · exact Or.inl ⟨hn, 0, rfl⟩
    · exact Or.inr ⟨i, hi, c, hc, hx⟩
/-- The number with which the marks of a book's spots, valves, parts begin, and where they end. -/
def kB1 (x : Book) (k : Int) : Int := k + (x.foes.length * 2 : Nat)
def kB2 (x : Book) (k : Int) : Int := kSp (fun i => (gp x.spots i).may.length) (kB1 x k) x.spots.length
def kB3 (x : Book) (k : Int) : Int := kB2 x k + x.valves.length
def kB4 (x : Book) (k : Int) : Int := kPt (fun i => pL (gq x.parts i)) (kB3 x k) x.parts.length
theorem kSp_sum (L : Nat → Nat) (k : Int) (n : Nat) : kSp L k n = k + ((4 * n + sumTo n L : Nat) : Int) := by
  induction n with
  | zero => simp [kSp, sumTo]
  | succ n ih => rw [kSp_step, ih, sumTo_succ]; push_cast; omega
theorem kPt_sum (ps : List Part) (k : Int) (n : Nat) : kPt (fun i => pL (gq ps i)) k n ≤ k + ((3 * n + 3 * sumTo n (fun i => wW (gq ps i).want) : Nat) : Int) := by
  induction n with
  | zero => simp [kPt, sumTo]
  | succ n ih =>
    rw [kPt_step, sumTo_succ]
    have e : wW (gq ps n).want = pL (gq ps n) 0 + pL (gq ps n) 1 + pL (gq ps n) 2 + pL (gq ps n) 3 := rfl
    rw [e]
    push_cast at ih ⊢
    omega
theorem kB4_le (x : Book) (k : Int) : kB4 x k ≤ k + ((7 * wB x : Nat) : Int) := by
  have h1 := kPt_sum x.parts (kB3 x k) x.parts.length
  have h2 := kSp_sum (fun i => (gp x.spots i).may.length) (kB1 x k) x.spots.length
  unfold kB4
  unfold kB3 kB2 at *
  rw [h2] at h1 ⊢
  unfold kB1 at *
  unfold wB
  push_cast at h1 ⊢
  omega

/-- A marked book. -/
structure BookG (w : World) (x : Book) (af ap av aq : Option Addr) (A1 : Nat → Option Addr) (C1 : Nat → Nat) (A2 : Nat → Nat → Option Addr) (C2 : Nat → Nat → Nat) (k : Int) : Prop where
  foes : SlotG w 105 2 af x.foes.length (gFoe k)
  spots : SpotsG w ap x.spots.length A1 (fun i => (gp x.spots i).may.length) C1 (kB1 x k)
  valves : SlotG w 9 1 av x.valves.length (gFoe (kB2 x k))
  parts : PartsG w aq x.parts.length A2 (fun i => pL (gq x.parts i)) C2 (kB3 x k)
theorem BookG.only {B : Nat → Prop} {w w' : World} {x : Book} {af ap av aq : Option Addr} {A1 : Nat → Option Addr} {C1 : Nat → Nat} {A2 : Nat → Nat → Option Addr} {C2 : Nat → Nat → Nat} {k : Int} (h : BookG w x af ap av aq A1 C1 A2 C2 k) (ho : Only B w w') (hB : ∀ y, InBk x af ap av aq A1 A2 y → ¬ B y) : BookG w' x af ap av aq A1 C1 A2 C2 k :=
  ⟨h.foes.only ho (fun y hy => hB y (Or.inl hy)), h.spots.only ho (fun y hy => hB y (Or.inr (Or.inl hy))), h.valves.only ho (fun y hy => hB y (Or.inr (Or.inr (Or.inl hy)))), h.parts.only ho (fun y hy => hB y (Or.inr (Or.inr (Or.inr hy))))⟩
theorem BookG.later {w w' : World} {x : Book} {af ap av aq : Option Addr} {A1 : Nat → Option Addr} {C1 : Nat → Nat} {A2 : Nat → Nat → Option Addr} {C2 : Nat → Nat → Nat} {k : Int} (h : BookG w x af ap av aq A1 C1 A2 C2 k) (hb : Below w.heap.size w w') : BookG w' x af ap av aq A1 C1 A2 C2 k := h.only (Only.of (B := fun _ => False) hb) (fun _ _ => id)

set_option maxRecDepth 100000 in
set_option maxHeartbeats 2000000 in
theorem markBook_any (x : Book) (af ap av aq : Option Addr) (cf cp cv cq : Nat) (A1 : Nat → Option Addr) (C1 : Nat → Nat) (A2 : Nat → Nat → Option Addr) (C2 : Nat → Nat → Nat) (k : Int) (w : World) (h : OwnBook w x af ap av aq A1 C1 A2 C2) (h0 : 0 ≤ k) (h1 : kB4 x k ≤ 1000000000) :
    Calls Tryz.prog 15 #[bookV x af ap av aq cf cp cv cq, .int .i64 k] w fun e w' => e = .returned (.int .i64 (kB4 x k)) ∧ BookG w' x af ap av aq A1 C1 A2 C2 k ∧ Only (InBk x af ap av aq A1 A2) w w' := by
  have t3 := kPt_ge (fun i => pL (gq x.parts i)) (kB3 x k) x.parts.length
  have t2 := kSp_ge (fun i => (gp x.spots i).may.length) (kB1 x k) x.spots.length
  have e3 : kB3 x k = kB2 x k + x.valves.length := rfl
  have e1 : kB1 x k = k + (x.foes.length * 2 : Nat) := rfl
  have hk4 : kB3 x k ≤ kB4 x k := by unfold kB4; omega
  have hk2 : kB1 x k ≤ kB2 x k := by unfold kB2; omega
  clear t3 t2
  unfold bookV
  have v0 : Below w.heap.size w (w.alloc (.cells #[.slice af x.foes.length cf, .slice ap x.spots.length cp, .slice av x.valves.length cv, .slice aq x.parts.length cq, .int .i64 x.seen] 38)) := (Below.refl _ _).alloc (Nat.le_refl _) _
  have i0 := Row.new w 38 [.slice af x.foes.length cf, .slice ap x.spots.length cp, .slice av x.valves.length cv, .slice aq x.parts.length cq, .int .i64 x.seen]
  have o0 := h.later v0
  have hfo := h.foes
  have hout : ¬ InBk x af ap av aq A1 A2 w.heap.size := fun hx => Nat.lt_irrefl _ (h.lt hx)
  go_enter Tryz.func15, Tryz.ntmps15
  go_wp2_with fail
  refine (markFoeS_any af x.foes.length cf k _ o0.foes.slot h0 (by omega)).mono ?_
  rintro e w1 ⟨rfl, g0, O1⟩
  have i1 := Row.only i0 O1 (fun hx => hout (Or.inl hx))
  have s1 := o0.spots.only O1 (fun y hy hy' => h.d01 y hy' hy)
  have u1 := o0.valves.only O1 (fun y hy hy' => h.d02 y hy' hy)
  have p1 := o0.parts.only O1 (fun y hy hy' => h.d03 y hy' hy)
  have W1 := (Only.of (B := InBk x af ap av aq A1 A2) v0).trans (O1.mono fun y hy => Or.inl hy)
  rw [← e1]
  have q1 := i1.cell 1 rfl
  clear i0 v0 o0 O1
  go_wp2_with fail
  refine (markSpotS_own ap x.spots cp A1 C1 (kB1 x k) w1 s1 (by omega) (by show kB2 x k ≤ _; omega)).mono ?_
  rintro e w2 ⟨rfl, g1, O2⟩
  have i2 := i1.only O2 (fun hx => hout (Or.inr (Or.inl hx)))
  have g0 := g0.only O2 (fun y hy hy' => h.d01 y hy hy')
  have u2 := u1.only O2 (fun y hy hy' => h.d12 y hy' hy)
  have p2 := p1.only O2 (fun y hy hy' => h.d13 y hy' hy)
  have W2 := W1.trans (O2.mono fun y hy => Or.inr (Or.inl hy))
  have q2 := i2.cell 2 rfl
  clear i1 s1 u1 p1 W1 O2 q1
  rw [show kSp (fun i => (gp x.spots i).may.length) (kB1 x k) x.spots.length = kB2 x k from rfl]
  go_wp2_with fail
  refine (markStrings_any av x.valves.length cv (kB2 x k) w2 u2.slot (by omega) (by omega)).mono ?_
  rintro e w3 ⟨rfl, g2, O3⟩
  have i3 := i2.only O3 (fun hx => hout (Or.inr (Or.inr (Or.inl hx))))
  have g0 := g0.only O3 (fun y hy hy' => h.d02 y hy hy')
  have g1 := g1.only O3 (fun y hy hy' => h.d12 y hy hy')
  have p3 := p2.only O3 (fun y hy hy' => h.d23 y hy' hy)
  have W3 := W2.trans (O3.mono fun y hy => Or.inr (Or.inr (Or.inl hy)))
  have q3 := i3.cell 3 rfl
  clear i2 u2 p2 W2 O3 q2
  rw [← e3]
  go_wp2_with fail
  refine (markPartS_own aq x.parts cq A2 C2 (kB3 x k) w3 p3 (by omega) h1).mono ?_
  rintro e w4 ⟨rfl, g3, O4⟩
  have g0 := g0.only O4 (fun y hy hy' => h.d03 y hy hy')
  have g1 := g1.only O4 (fun y hy hy' => h.d13 y hy hy')
  have g2 := g2.only O4 (fun y hy hy' => h.d23 y hy hy')
  have W4 := W3.trans (O4.mono fun y hy => Or.inr (Or.inr (Or.inr hy)))
  clear i3 p3 W3 O4 q3
  go_wp2
  go_ret
  exact ⟨rfl, ⟨g0, g1, g2, g3⟩, W4⟩

end Go.Proofs.YtfmhkicncgccjaaGreatDoor

/- Marks held in a list of texts. -/
namespace Go.Proofs.YtfmhkicncgccjaaGreatDoor
open Go.RowKit Go.Sort
set_option linter.unusedSimpArgs false
set_option linter.unusedVariables false

set_option maxRecDepth 100000 in
set_option maxHeartbeats 2000000 in
theorem heldStringS_any (b n cap : Nat) (l : List Value) (k : Int) (w : World) (hr : Row w b 9 ((marks k n).map Value.string ++ l)) (h0 : 0 ≤ k) (h1 : k + n ≤ 1000000000) :
    Calls Tryz.prog 57 #[.slice (some ⟨b, 0, none⟩) n cap, .int .i64 k] w fun e w' => e = .returned (.int .i64 (k + n)) ∧ Below w.heap.size w w' := by
  go_enter Tryz.func57, Tryz.ntmps57
  go_wp2
  go_loopw [1, 5] (fun kk i wv => ∃ (j : Nat) (X : World), X = wv ∧ j ≤ n ∧ i = .int .i64 j ∧ kk = .int .i64 (k + j) ∧ Below w.heap.size w X) (fun _ i _ => n - (intOf i).toNat)
  case atStart => exact ⟨0, _, rfl, Nat.zero_le _, rfl, by simp, Below.refl _ _⟩
  case round =>
    obtain ⟨j, X, rfl, hj, rfl, rfl, hb⟩ := hrel
    by_cases hlt : j < n
    · have hlt2 : (j : Int) < n := by omega
      have hj0 : (0 : Int) ≤ j := by omega
      have c0 : X.cell? ⟨b, j, none⟩ = some (.string (markT (k + j))) := (hr.later hb).cell j (by rw [List.getElem?_append_left (by simp [marks_length, hlt])]; simp [marks_at hlt])
      have hS : ∀ w', Below X.heap.size X w' → (w'.cell? ⟨b, j, none⟩ = some (.string (markT (k + j))) ∧ Below X.heap.size X w') := fun w' hb' => ⟨cell_later hb' c0, hb'⟩
      have hcall : ∀ W', Below X.heap.size X W' → Calls Tryz.prog 96 #[.int .i64 (k + j)] W' fun e w' => e = .returned (.string (markT (k + j))) ∧ Below X.heap.size X w' := fun W' h' =>
        (markText_any (k + j) (by omega) W').mono fun _ _ h => ⟨h.1, h'.trans (h.2.mono h'.size)⟩
      generalize markT (k + j) = s at c0 hS hcall
      go_wp2_with fail
      go_region_held3 (fun w' => (w'.cell? ⟨b, j, none⟩ = some (.string s) ∧ Below X.heap.size X w'))
        ((refine hS _ ?_; repeat (first | with_reducible assumption | with_reducible exact Below.refl _ _ | (with_reducible refine Below.drew ?_))))
        (first | (go_at_call 96; refine (hcall _ (by repeat (first | with_reducible assumption | with_reducible exact Below.refl _ _ | (with_reducible refine Below.drew ?_)))).mono ?_; rintro e w1 ⟨rfl, hb1⟩))
      have hb2 := hb.trans (hb1.mono hb.size)
      rename_i hHeld
      clear hHeld hS hcall c0
      go_wp2
      go_roundw
      case rel => exact ⟨j + 1, _, rfl, by omega, by go_num, by go_num, hb2⟩
      case measure => simp [intOf]; omega
    · have : j = n := by omega
      subst this
      go_wp2
      go_ret
      exact ⟨rfl, hb⟩

end Go.Proofs.YtfmhkicncgccjaaGreatDoor

/- Marks held in lists of foes and of uses. -/
namespace Go.Proofs.YtfmhkicncgccjaaGreatDoor
open Go.RowKit Go.Sort
set_option linter.unusedSimpArgs false
set_option linter.unusedVariables false

set_option maxRecDepth 100000 in
set_option maxHeartbeats 2000000 in
theorem heldFoes_any (b n cap : Nat) (l : List Value) (k : Int) (w : World) (hr : Row w b 105 (rowG (gFoe k) (n * 2) l)) (h0 : 0 ≤ k) (h1 : k + n * 2 ≤ 1000000000) :
    Calls Tryz.prog 55 #[.slice (some ⟨b, 0, none⟩) n cap, .int .i64 k] w fun e w' => e = .returned (.int .i64 (k + (n * 2 : Nat))) ∧ Below w.heap.size w w' := by
  go_enter Tryz.func55, Tryz.ntmps55
  go_wp2
  go_loopw [1, 5] (fun kk i wv => ∃ (j : Nat) (X : World), X = wv ∧ j ≤ n ∧ i = .int .i64 j ∧ kk = .int .i64 (k + (j * 2 : Nat)) ∧ Below w.heap.size w X) (fun _ i _ => n - (intOf i).toNat)
  case atStart => exact ⟨0, _, rfl, Nat.zero_le _, rfl, by simp, Below.refl _ _⟩
  case round =>
    obtain ⟨j, X, rfl, hj, rfl, rfl, hb⟩ := hrel
    by_cases hlt : j < n
    · have hlt2 : (j : Int) < n := by omega
      have hj0 : (0 : Int) ≤ j := by omega
      have hrX := hr.later hb
      have c0 : X.cell? ⟨b, j * 2, none⟩ = some (.string (markT (k + (j : Int) * 2))) := by
        rw [hrX.cell _ (rowG_at (gFoe k) (by omega))]; unfold gFoe; push_cast; rfl
      have c1 : X.cell? ⟨b, j * 2 + 1, none⟩ = some (.string (markT (k + (j : Int) * 2 + 1))) := by
        rw [hrX.cell _ (rowG_at (gFoe k) (by omega))]; unfold gFoe; congr 3; push_cast; omega
      have hS : ∀ w', Below X.heap.size X w' → (w'.cell? ⟨b, j * 2, none⟩ = some (.string (markT (k + (j : Int) * 2))) ∧ Below X.heap.size X w') := fun w' hb' => ⟨cell_later hb' c0, hb'⟩
      have hcall : ∀ W', Below X.heap.size X W' → Calls Tryz.prog 96 #[.int .i64 (k + (j : Int) * 2)] W' fun e w' => e = .returned (.string (markT (k + (j : Int) * 2))) ∧ Below X.heap.size X w' := fun W' h' =>
        (markText_any _ (by omega) W').mono fun _ _ h => ⟨h.1, h'.trans (h.2.mono h'.size)⟩
      generalize markT (k + (j : Int) * 2) = s at c0 hS hcall
      push_cast
      go_wp2_with fail
      go_region_held3 (fun w' => (w'.cell? ⟨b, j * 2, none⟩ = some (.string s) ∧ Below X.heap.size X w'))
        ((refine hS _ ?_; repeat (first | with_reducible assumption | with_reducible exact Below.refl _ _ | (with_reducible refine Below.drew ?_))))
        (first | (go_at_call 96; refine (hcall _ (by repeat (first | with_reducible assumption | with_reducible exact Below.refl _ _ | (with_reducible refine Below.drew ?_)))).mono ?_; rintro e w1 ⟨rfl, hb1⟩))
      have hb2 := hb.trans (hb1.mono hb.size)
      have c1' := cell_later hb1 c1
      rename_i hHeld
      clear hHeld hS hcall c0 c1 hrX
      have hS : ∀ w', Below w1.heap.size w1 w' → (w'.cell? ⟨b, j * 2 + 1, none⟩ = some (.string (markT (k + (j : Int) * 2 + 1))) ∧ Below w1.heap.size w1 w') := fun w' hb' => ⟨cell_later hb' c1', hb'⟩
      have hcall : ∀ W', Below w1.heap.size w1 W' → Calls Tryz.prog 96 #[.int .i64 (k + (j : Int) * 2 + 1)] W' fun e w' => e = .returned (.string (markT (k + (j : Int) * 2 + 1))) ∧ Below w1.heap.size w1 w' := fun W' h' =>
        (markText_any _ (by omega) W').mono fun _ _ h => ⟨h.1, h'.trans (h.2.mono h'.size)⟩
      generalize markT (k + (j : Int) * 2 + 1) = s1 at c1' hS hcall
      go_wp2_with fail
      go_region_held3 (fun w' => (w'.cell? ⟨b, j * 2 + 1, none⟩ = some (.string s1) ∧ Below w1.heap.size w1 w'))
        ((refine hS _ ?_; repeat (first | with_reducible assumption | with_reducible exact Below.refl _ _ | (with_reducible refine Below.drew ?_))))
        (first | (go_at_call 96; refine (hcall _ (by repeat (first | with_reducible assumption | with_reducible exact Below.refl _ _ | (with_reducible refine Below.drew ?_)))).mono ?_; rintro e w2 ⟨rfl, hb3⟩))
      have hb4 := hb2.trans (hb3.mono hb2.size)
      rename_i hHeld
      clear hHeld hS hcall c1'
      go_wp2
      go_roundw
      case rel => exact ⟨j + 1, _, rfl, by omega, by go_num, by push_cast; go_num, hb4⟩
      case measure => simp [intOf]; omega
    · have : j = n := by omega
      subst this
      go_wp2
      go_ret
      exact ⟨rfl, hb⟩

set_option maxRecDepth 100000 in
set_option maxHeartbeats 2000000 in
theorem heldUses_any (b n cap : Nat) (l : List Value) (k : Int) (w : World) (hr : Row w b 101 (rowG (gUse k) (n * 3) l)) (h0 : 0 ≤ k) (h1 : k + n * 3 ≤ 1000000000) :
    Calls Tryz.prog 97 #[.slice (some ⟨b, 0, none⟩) n cap, .int .i64 k] w fun e w' => e = .returned (.int .i64 (k + (n * 3 : Nat))) ∧ Below w.heap.size w w' := by
  go_enter Tryz.func97, Tryz.ntmps97
  go_wp2
  go_loopw [1, 5] (fun kk i wv => ∃ (j : Nat) (X : World), X = wv ∧ j ≤ n ∧ i = .int .i64 j ∧ kk = .int .i64 (k + (j * 3 : Nat)) ∧ Below w.heap.size w X) (fun _ i _ => n - (intOf i).toNat)
  case atStart => exact ⟨0, _, rfl, Nat.zero_le _, rfl, by simp, Below.refl _ _⟩
  case round =>
    obtain ⟨j, X, rfl, hj, rfl, rfl, hb⟩ := hrel
    by_cases hlt : j < n
    · have hlt2 : (j : Int) < n := by omega
      have hj0 : (0 : Int) ≤ j := by omega
      have hrX := hr.later hb
      have c0 : X.cell? ⟨b, j * 3, none⟩ = some (.string (markT (k + (j : Int) * 3))) := by
        rw [hrX.cell _ (rowG_at (gUse k) (by omega))]; unfold gUse; rw [if_pos (by omega)]; push_cast; rfl
      have c1 : X.cell? ⟨b, j * 3 + 1, none⟩ = some (.int .i64 (k + (j : Int) * 3 + 1)) := by
        rw [hrX.cell _ (rowG_at (gUse k) (by omega))]; unfold gUse; rw [if_neg (by omega)]; congr 2; push_cast; omega
      have c2 : X.cell? ⟨b, j * 3 + 2, none⟩ = some (.int .i64 (k + (j : Int) * 3 + 1 + 1)) := by
        rw [hrX.cell _ (rowG_at (gUse k) (by omega))]; unfold gUse; rw [if_neg (by omega)]; congr 2; push_cast; omega
      have hS : ∀ w', Below X.heap.size X w' → (w'.cell? ⟨b, j * 3, none⟩ = some (.string (markT (k + (j : Int) * 3))) ∧ Below X.heap.size X w') := fun w' hb' => ⟨cell_later hb' c0, hb'⟩
      have hcall : ∀ W', Below X.heap.size X W' → Calls Tryz.prog 96 #[.int .i64 (k + (j : Int) * 3)] W' fun e w' => e = .returned (.string (markT (k + (j : Int) * 3))) ∧ Below X.heap.size X w' := fun W' h' =>
        (markText_any _ (by omega) W').mono fun _ _ h => ⟨h.1, h'.trans (h.2.mono h'.size)⟩
      generalize markT (k + (j : Int) * 3) = s at c0 hS hcall
      push_cast
      go_wp2_with fail
      go_region_held3 (fun w' => (w'.cell? ⟨b, j * 3, none⟩ = some (.string s) ∧ Below X.heap.size X w'))
        ((refine hS _ ?_; repeat (first | with_reducible assumption | with_reducible exact Below.refl _ _ | (with_reducible refine Below.drew ?_))))
        (first | (go_at_call 96; refine (hcall _ (by repeat (first | with_reducible assumption | with_reducible exact Below.refl _ _ | (with_reducible refine Below.drew ?_)))).mono ?_; rintro e w1 ⟨rfl, hb1⟩))
      have hb2 := hb.trans (hb1.mono hb.size)
      have c1' := cell_later hb1 c1
      have c2' := cell_later hb1 c2
      rename_i hHeld
      clear hHeld hS hcall c0 c1 c2 hrX
      go_wp2
      go_roundw
      case rel => exact ⟨j + 1, _, rfl, by omega, by go_num, by push_cast; go_num, hb2⟩
      case measure => simp [intOf]; omega
    · have : j = n := by omega
      subst this
      go_wp2
      go_ret
      exact ⟨rfl, hb⟩

end Go.Proofs.YtfmhkicncgccjaaGreatDoor

/- Marks held in a list of texts or of uses that may be empty. -/
namespace Go.Proofs.YtfmhkicncgccjaaGreatDoor
open Go.RowKit Go.Sort
set_option linter.unusedSimpArgs false
set_option linter.unusedVariables false

set_option maxHeartbeats 1000000 in
theorem heldString0 (a : Option Addr) (cap : Nat) (k : Int) (w : World) :
    Calls Tryz.prog 57 #[.slice a 0 cap, .int .i64 k] w fun e w' => e = .returned (.int .i64 k) ∧ w' = w := by
  go_enter Tryz.func57, Tryz.ntmps57
  go_wp2
  go_loopw [1, 5] (fun kk i wv => wv = w ∧ i = .int .i64 0 ∧ kk = .int .i64 k) (fun _ _ _ => 0)
  case atStart => exact ⟨rfl, rfl, rfl⟩
  case round =>
    obtain ⟨rfl, rfl, rfl⟩ := hrel
    go_wp2
    go_ret
    exact ⟨rfl, rfl⟩
set_option maxHeartbeats 1000000 in
theorem heldUses0 (a : Option Addr) (cap : Nat) (k : Int) (w : World) :
    Calls Tryz.prog 97 #[.slice a 0 cap, .int .i64 k] w fun e w' => e = .returned (.int .i64 k) ∧ w' = w := by
  go_enter Tryz.func97, Tryz.ntmps97
  go_wp2
  go_loopw [1, 5] (fun kk i wv => wv = w ∧ i = .int .i64 0 ∧ kk = .int .i64 k) (fun _ _ _ => 0)
  case atStart => exact ⟨rfl, rfl, rfl⟩
  case round =>
    obtain ⟨rfl, rfl, rfl⟩ := hrel
    go_wp2
    go_ret
    exact ⟨rfl, rfl⟩

theorem heldStrings_any (a : Option Addr) (n cap : Nat) (k : Int) (w : World) (h : SlotG w 9 1 a n (gFoe k)) (h0 : 0 ≤ k) (h1 : k + n ≤ 1000000000) :
    Calls Tryz.prog 57 #[.slice a n cap, .int .i64 k] w fun e w' => e = .returned (.int .i64 (k + n)) ∧ Below w.heap.size w w' := by
  by_cases hn : n = 0
  · subst hn
    refine (heldString0 a cap k w).mono ?_
    rintro e w' ⟨rfl, rfl⟩
    exact ⟨by simp, Below.refl _ _⟩
  · rcases h with h | ⟨b, l, rfl, hr, hl⟩
    · exact absurd h hn
    · rw [Nat.mul_one, ← marks_row] at hr
      exact heldStringS_any b n cap _ k w hr h0 h1
theorem heldUseS_any (a : Option Addr) (n cap : Nat) (k : Int) (w : World) (h : SlotG w 101 3 a n (gUse k)) (h0 : 0 ≤ k) (h1 : k + n * 3 ≤ 1000000000) :
    Calls Tryz.prog 97 #[.slice a n cap, .int .i64 k] w fun e w' => e = .returned (.int .i64 (k + (n * 3 : Nat))) ∧ Below w.heap.size w w' := by
  by_cases hn : n = 0
  · subst hn
    refine (heldUses0 a cap k w).mono ?_
    rintro e w' ⟨rfl, rfl⟩
    exact ⟨by simp, Below.refl _ _⟩
  · rcases h with h | ⟨b, l, rfl, hr, hl⟩
    · exact absurd h hn
    · exact heldUses_any b n cap l k w hr h0 h1

end Go.Proofs.YtfmhkicncgccjaaGreatDoor

/- Marks held in a list of spots. -/
namespace Go.Proofs.YtfmhkicncgccjaaGreatDoor
open Go.RowKit Go.Sort
set_option linter.unusedSimpArgs false
set_option linter.unusedVariables false

set_option maxRecDepth 100000 in
set_option maxHeartbeats 4000000 in
theorem heldSpots_any (b n cap : Nat) (l : List Value) (A : Nat → Option Addr) (L C : Nat → Nat) (k : Int) (w : World) (hr : Row w b 99 (rowG (gSpot A L C k) (n * 5) l)) (hs : ∀ i, i < n → SlotG w 9 1 (A i) (L i) (gFoe (kSp L k i + 4))) (h0 : 0 ≤ k) (h1 : kSp L k n ≤ 1000000000) :
    Calls Tryz.prog 56 #[.slice (some ⟨b, 0, none⟩) n cap, .int .i64 k] w fun e w' => e = .returned (.int .i64 (kSp L k n)) ∧ Below w.heap.size w w' := by
  have hn9 := kSp_ge L k n
  go_enter Tryz.func56, Tryz.ntmps56
  go_wp2
  go_loopw [1, 5] (fun kk i wv => ∃ (j : Nat) (X : World), X = wv ∧ j ≤ n ∧ i = .int .i64 j ∧ kk = .int .i64 (kSp L k j) ∧ Below w.heap.size w X) (fun _ i _ => n - (intOf i).toNat)
  case atStart => exact ⟨0, _, rfl, Nat.zero_le _, rfl, rfl, Below.refl _ _⟩
  case round =>
    obtain ⟨j, X, rfl, hj, rfl, rfl, hb⟩ := hrel
    by_cases hlt : j < n
    · have hlt2 : (j : Int) < n := by omega
      have hj0 : (0 : Int) ≤ j := by omega
      have hkj : k ≤ kSp L k j := kSp_le L k (Nat.zero_le j)
      have hkn := kSp_le L k (show j + 1 ≤ n from hlt)
      rw [kSp_step] at hkn
      have hks := kSp_step L k j
      have hrX := hr.later hb
      have hsj := (hs j hlt).later hb
      have c0 := hrX.cell _ (rowG_at (gSpot A L C k) (l := l) (show j * 5 < n * 5 by omega))
      have c1 := hrX.cell _ (rowG_at (gSpot A L C k) (l := l) (show j * 5 + 1 < n * 5 by omega))
      have c2 := hrX.cell _ (rowG_at (gSpot A L C k) (l := l) (show j * 5 + 2 < n * 5 by omega))
      have c3 := hrX.cell _ (rowG_at (gSpot A L C k) (l := l) (show j * 5 + 3 < n * 5 by omega))
      have c4 := hrX.cell _ (rowG_at (gSpot A L C k) (l := l) (show j * 5 + 4 < n * 5 by omega))
      rw [gSpot_0] at c0
      rw [gSpot_c _ _ _ _ _ _ (by omega) (by omega)] at c1 c2 c3
      rw [gSpot_4] at c4
      generalize hK : kSp L k j = K at hkj hkn hks c0 c1 c2 c3 hsj
      have c1 : X.cell? ⟨b, j * 5 + 1, none⟩ = some (.int .i64 (K + 1)) := c1
      have c2 : X.cell? ⟨b, j * 5 + 2, none⟩ = some (.int .i64 (K + 1 + 1)) := by rw [c2]; congr 2; push_cast; omega
      have c3 : X.cell? ⟨b, j * 5 + 3, none⟩ = some (.int .i64 (K + 1 + 1 + 1)) := by rw [c3]; congr 2; push_cast; omega
      have hS : ∀ w', Below X.heap.size X w' → (w'.cell? ⟨b, j * 5, none⟩ = some (.string (markT K)) ∧ Below X.heap.size X w') := fun w' hb' => ⟨cell_later hb' c0, hb'⟩
      have hcall : ∀ W', Below X.heap.size X W' → Calls Tryz.prog 96 #[.int .i64 K] W' fun e w' => e = .returned (.string (markT K)) ∧ Below X.heap.size X w' := fun W' h' =>
        (markText_any _ (by omega) W').mono fun _ _ h => ⟨h.1, h'.trans (h.2.mono h'.size)⟩
      generalize markT K = s at c0 hS hcall
      have HK : Hid (kSp L k j = K) := hK
      clear hK
      go_wp2_with fail
      go_region_held3 (fun w' => (w'.cell? ⟨b, j * 5, none⟩ = some (.string s) ∧ Below X.heap.size X w'))
        ((refine hS _ ?_; repeat (first | with_reducible assumption | with_reducible exact Below.refl _ _ | (with_reducible refine Below.drew ?_))))
        (first | (go_at_call 96; refine (hcall _ (by repeat (first | with_reducible assumption | with_reducible exact Below.refl _ _ | (with_reducible refine Below.drew ?_)))).mono ?_; rintro e w1 ⟨rfl, hb1⟩))
      have hb2 := hb.trans (hb1.mono hb.size)
      have c1' := cell_later hb1 c1
      have c2' := cell_later hb1 c2
      have c3' := cell_later hb1 c3
      have c4' := cell_later hb1 c4
      have hsj1 := hsj.later hb1
      rename_i hHeld
      clear hHeld hS hcall c0 c1 c2 c3 c4 hrX hsj
      go_wp2_with fail
      refine (heldStrings_any (A j) (L j) (C j) (K + 1 + 1 + 1 + 1) _ (by rw [show K + 1 + 1 + 1 + 1 = K + 4 by omega]; exact hsj1) (by omega) (by omega)).mono ?_
      rintro e w3 ⟨rfl, hb3⟩
      have hb4 := hb2.trans (hb3.mono hb2.size)
      have hpos : (0 : Int) ≤ K + 1 + 1 + 1 + 1 + L j := by omega
      clear c1' c2' c3' c4' hsj1
      go_wp2
      go_roundw
      case rel => exact ⟨j + 1, _, rfl, by omega, by go_num, by rw [hks]; first | rfl | (congr 1; omega) | (congr 1; push_cast; omega), hb4⟩
      case measure => simp [intOf]; omega
    · have : j = n := by omega
      subst this
      go_wp2
      go_ret
      exact ⟨rfl, hb⟩

end Go.Proofs.YtfmhkicncgccjaaGreatDoor

/- Marks held in a list of parts. -/
namespace Go.Proofs.YtfmhkicncgccjaaGreatDoor
open Go.RowKit Go.Sort
set_option linter.unusedSimpArgs false
set_option linter.unusedVariables false

set_option maxRecDepth 100000 in
set_option maxHeartbeats 4000000 in
theorem heldParts_any (b n cap : Nat) (l : List Value) (A : Nat → Nat → Option Addr) (L C : Nat → Nat → Nat) (k : Int) (w : World) (hr : Row w b 60 (rowG (gPart A L C k) (n * 7) l)) (hs : ∀ i, i < n → ∀ d, d < 4 → SlotG w (tS d) (sS d) (A i d) (L i d) (gS d (pS (L i) (kPt L k i) d))) (h0 : 0 ≤ k) (h1 : kPt L k n ≤ 1000000000) :
    Calls Tryz.prog 58 #[.slice (some ⟨b, 0, none⟩) n cap, .int .i64 k] w fun e w' => e = .returned (.int .i64 (kPt L k n)) ∧ Below w.heap.size w w' := by
  have hn9 := kPt_ge L k n
  go_enter Tryz.func58, Tryz.ntmps58
  go_wp2
  go_loopw [1, 5] (fun kk i wv => ∃ (j : Nat) (X : World), X = wv ∧ j ≤ n ∧ i = .int .i64 j ∧ kk = .int .i64 (kPt L k j) ∧ Below w.heap.size w X) (fun _ i _ => n - (intOf i).toNat)
  case atStart => exact ⟨0, _, rfl, Nat.zero_le _, rfl, rfl, Below.refl _ _⟩
  case round =>
    obtain ⟨j, X, rfl, hj, rfl, rfl, hb⟩ := hrel
    by_cases hlt : j < n
    · have hlt2 : (j : Int) < n := by omega
      have hj0 : (0 : Int) ≤ j := by omega
      have hkj : k ≤ kPt L k j := kPt_le L k (Nat.zero_le j)
      have hkn := kPt_le L k (show j + 1 ≤ n from hlt)
      rw [kPt_step] at hkn
      have hks := kPt_step L k j
      have hrX := hr.later hb
      have c0 := hrX.cell _ (rowG_at (gPart A L C k) (l := l) (show j * 7 < n * 7 by omega))
      have c1 := hrX.cell _ (rowG_at (gPart A L C k) (l := l) (show j * 7 + 1 < n * 7 by omega))
      have c2 := hrX.cell _ (rowG_at (gPart A L C k) (l := l) (show j * 7 + 2 + 0 < n * 7 by omega))
      rw [gPart_0] at c0
      rw [gPart_1] at c1
      rw [gPart_c _ _ _ _ _ _ (by omega)] at c2
      have s0 := (hs j hlt 0 (by omega)).later hb
      have p0 : pS (L j) (kPt L k j) 0 = kPt L k j + 1 + 1 := by show kPt L k j + 2 = _; omega
      rw [p0] at s0
      have HK : Hid (∀ d, d < 4 → SlotG w (tS d) (sS d) (A j d) (L j d) (gS d (pS (L j) (kPt L k j) d))) := hs j hlt
      generalize hK : kPt L k j = K at hkj hkn hks c0 c1 s0
      go_wp2_with fail
      refine (heldStrings_any (A j 0) (L j 0) (C j 0) (K + 1 + 1) _ s0 (by omega) (by omega)).mono ?_
      rintro e w1 ⟨rfl, b1⟩
      have hb1 := hb.trans (b1.mono hb.size)
      have c3 := (hr.later hb1).cell _ (rowG_at (gPart A L C k) (l := l) (show j * 7 + 2 + 1 < n * 7 by omega))
      rw [gPart_c _ _ _ _ _ _ (by omega)] at c3
      have s1 := (HK.out 1 (by omega)).later hb1
      rw [show pS (L j) (kPt L k j) 1 = K + 1 + 1 + (L j 0 : Int) by show kPt L k j + 2 + (L j 0 : Int) = _; rw [hK]; omega] at s1
      have q1 : (0 : Int) ≤ K + 1 + 1 + (L j 0 : Int) := by omega
      clear c0 c1 c2 s0 hrX b1
      go_wp2_with fail
      refine (heldUseS_any (A j 1) (L j 1) (C j 1) (K + 1 + 1 + (L j 0 : Int)) _ s1 (by omega) (by omega)).mono ?_
      rintro e w2 ⟨rfl, b2⟩
      have hb2 := hb1.trans (b2.mono hb1.size)
      have c4 := (hr.later hb2).cell _ (rowG_at (gPart A L C k) (l := l) (show j * 7 + 2 + 2 < n * 7 by omega))
      rw [gPart_c _ _ _ _ _ _ (by omega)] at c4
      have s2 := (HK.out 2 (by omega)).later hb2
      rw [show pS (L j) (kPt L k j) 2 = K + 1 + 1 + (L j 0 : Int) + ((L j 1 * 3 : Nat) : Int) by show kPt L k j + 2 + (L j 0 : Int) + ((L j 1 * 3 : Nat) : Int) = _; rw [hK]; omega] at s2
      generalize hU : ((L j 1 * 3 : Nat) : Int) = U at hkn hks s2
      have q2 : (0 : Int) ≤ K + 1 + 1 + (L j 0 : Int) + U := by omega
      clear c3 s1 b2
      go_wp2_with fail
      refine (heldStrings_any (A j 2) (L j 2) (C j 2) (K + 1 + 1 + (L j 0 : Int) + U) _ s2 (by omega) (by omega)).mono ?_
      rintro e w3 ⟨rfl, b3⟩
      have hb3 := hb2.trans (b3.mono hb2.size)
      have c5 := (hr.later hb3).cell _ (rowG_at (gPart A L C k) (l := l) (show j * 7 + 2 + 3 < n * 7 by omega))
      rw [gPart_c _ _ _ _ _ _ (by omega)] at c5
      have s3 := (HK.out 3 (by omega)).later hb3
      rw [show pS (L j) (kPt L k j) 3 = K + 1 + 1 + (L j 0 : Int) + U + (L j 2 : Int) by show kPt L k j + 2 + (L j 0 : Int) + ((L j 1 * 3 : Nat) : Int) + (L j 2 : Int) = _; rw [hK, hU]; omega] at s3
      have q3 : (0 : Int) ≤ K + 1 + 1 + (L j 0 : Int) + U + (L j 2 : Int) := by omega
      clear c4 s2 b3
      go_wp2_with fail
      refine (heldStrings_any (A j 3) (L j 3) (C j 3) (K + 1 + 1 + (L j 0 : Int) + U + (L j 2 : Int)) _ s3 (by omega) (by omega)).mono ?_
      rintro e w4 ⟨rfl, b4⟩
      have hb4 := hb3.trans (b4.mono hb3.size)
      have c6 := (hr.later hb4).cell _ (rowG_at (gPart A L C k) (l := l) (show j * 7 + 6 < n * 7 by omega))
      rw [gPart_6, show pS (L j) (kPt L k j) 4 = K + 1 + 1 + (L j 0 : Int) + U + (L j 2 : Int) + (L j 3 : Int) by show kPt L k j + 2 + (L j 0 : Int) + ((L j 1 * 3 : Nat) : Int) + (L j 2 : Int) + (L j 3 : Int) = _; rw [hK, hU]; omega] at c6
      have q4 : (0 : Int) ≤ K + 1 + 1 + (L j 0 : Int) + U + (L j 2 : Int) + (L j 3 : Int) := by omega
      have q5 : K + 1 + 1 + (L j 0 : Int) + U + (L j 2 : Int) + (L j 3 : Int) + 1 ≤ 1000000000 := by omega
      have hks2 : kPt L k (j + 1) = K + 1 + 1 + (L j 0 : Int) + U + (L j 2 : Int) + (L j 3 : Int) + 1 := by rw [hks]; omega
      generalize K + 1 + 1 + (L j 0 : Int) + U + (L j 2 : Int) + (L j 3 : Int) = Z at c6 q4 q5 hks2 ⊢
      clear c5 s3 b4
      go_wp2
      go_roundw
      case rel => exact ⟨j + 1, _, rfl, by omega, by go_num, by rw [hks2], hb4⟩
      case measure => simp [intOf]; omega
    · have : j = n := by omega
      subst this
      go_wp2
      go_ret
      exact ⟨rfl, hb⟩

end Go.Proofs.YtfmhkicncgccjaaGreatDoor

/- Marks held in a book. -/
namespace Go.Proofs.YtfmhkicncgccjaaGreatDoor
open Go.RowKit Go.Sort
set_option linter.unusedSimpArgs false
set_option linter.unusedVariables false

set_option maxHeartbeats 1000000 in
theorem heldFoes0 (a : Option Addr) (cap : Nat) (k : Int) (w : World) :
    Calls Tryz.prog 55 #[.slice a 0 cap, .int .i64 k] w fun e w' => e = .returned (.int .i64 k) ∧ w' = w := by
  go_enter Tryz.func55, Tryz.ntmps55
  go_wp2
  go_loopw [1, 5] (fun kk i wv => wv = w ∧ i = .int .i64 0 ∧ kk = .int .i64 k) (fun _ _ _ => 0)
  case atStart => exact ⟨rfl, rfl, rfl⟩
  case round =>
    obtain ⟨rfl, rfl, rfl⟩ := hrel
    go_wp2
    go_ret
    exact ⟨rfl, rfl⟩
set_option maxHeartbeats 1000000 in
theorem heldSpots0 (a : Option Addr) (cap : Nat) (k : Int) (w : World) :
    Calls Tryz.prog 56 #[.slice a 0 cap, .int .i64 k] w fun e w' => e = .returned (.int .i64 k) ∧ w' = w := by
  go_enter Tryz.func56, Tryz.ntmps56
  go_wp2
  go_loopw [1, 5] (fun kk i wv => wv = w ∧ i = .int .i64 0 ∧ kk = .int .i64 k) (fun _ _ _ => 0)
  case atStart => exact ⟨rfl, rfl, rfl⟩
  case round =>
    obtain ⟨rfl, rfl, rfl⟩ := hrel
    go_wp2
    go_ret
    exact ⟨rfl, rfl⟩
set_option maxHeartbeats 1000000 in
theorem heldParts0 (a : Option Addr) (cap : Nat) (k : Int) (w : World) :
    Calls Tryz.prog 58 #[.slice a 0 cap, .int .i64 k] w fun e w' => e = .returned (.int .i64 k) ∧ w' = w := by
  go_enter Tryz.func58, Tryz.ntmps58
  go_wp2
  go_loopw [1, 5] (fun kk i wv => wv = w ∧ i = .int .i64 0 ∧ kk = .int .i64 k) (fun _ _ _ => 0)
  case atStart => exact ⟨rfl, rfl, rfl⟩
  case round =>
    obtain ⟨rfl, rfl, rfl⟩ := hrel
    go_wp2
    go_ret
    exact ⟨rfl, rfl⟩

theorem heldFoeS_any (a : Option Addr) (n cap : Nat) (k : Int) (w : World) (h : SlotG w 105 2 a n (gFoe k)) (h0 : 0 ≤ k) (h1 : k + n * 2 ≤ 1000000000) :
    Calls Tryz.prog 55 #[.slice a n cap, .int .i64 k] w fun e w' => e = .returned (.int .i64 (k + (n * 2 : Nat))) ∧ Below w.heap.size w w' := by
  by_cases hn : n = 0
  · subst hn
    refine (heldFoes0 a cap k w).mono ?_
    rintro e w' ⟨rfl, rfl⟩
    exact ⟨by simp, Below.refl _ _⟩
  · rcases h with h | ⟨b, l, rfl, hr, hl⟩
    · exact absurd h hn
    · exact heldFoes_any b n cap l k w hr h0 h1

theorem heldSpotS_any (a : Option Addr) (n cap : Nat) (A : Nat → Option Addr) (L C : Nat → Nat) (k : Int) (w : World) (h : SpotsG w a n A L C k) (h0 : 0 ≤ k) (h1 : kSp L k n ≤ 1000000000) :
    Calls Tryz.prog 56 #[.slice a n cap, .int .i64 k] w fun e w' => e = .returned (.int .i64 (kSp L k n)) ∧ Below w.heap.size w w' := by
  by_cases hn : n = 0
  · subst hn
    refine (heldSpots0 a cap k w).mono ?_
    rintro e w' ⟨rfl, rfl⟩
    exact ⟨rfl, Below.refl _ _⟩
  · rcases h with h | ⟨b, l, rfl, hr, hs⟩
    · exact absurd h hn
    · exact heldSpots_any b n cap l A L C k w hr hs h0 h1
theorem heldPartS_any (a : Option Addr) (n cap : Nat) (A : Nat → Nat → Option Addr) (L C : Nat → Nat → Nat) (k : Int) (w : World) (h : PartsG w a n A L C k) (h0 : 0 ≤ k) (h1 : kPt L k n ≤ 1000000000) :
    Calls Tryz.prog 58 #[.slice a n cap, .int .i64 k] w fun e w' => e = .returned (.int .i64 (kPt L k n)) ∧ Below w.heap.size w w' := by
  by_cases hn : n = 0
  · subst hn
    refine (heldParts0 a cap k w).mono ?_
    rintro e w' ⟨rfl, rfl⟩
    exact ⟨rfl, Below.refl _ _⟩
  · rcases h with h | ⟨b, l, rfl, hr, hs⟩
    · exact absurd h hn
    · exact heldParts_any b n cap l A L C k w hr hs h0 h1

set_option maxRecDepth 100000 in
set_option maxHeartbeats 2000000 in
theorem heldBook_any (x : Book) (af ap av aq : Option Addr) (cf cp cv cq : Nat) (A1 : Nat → Option Addr) (C1 : Nat → Nat) (A2 : Nat → Nat → Option Addr) (C2 : Nat → Nat → Nat) (k : Int) (w : World) (h : BookG w x af ap av aq A1 C1 A2 C2 k) (h0 : 0 ≤ k) (h1 : kB4 x k ≤ 1000000000) :
    Calls Tryz.prog 17 #[bookV x af ap av aq cf cp cv cq, .int .i64 k] w fun e w' => e = .returned (.int .i64 (kB4 x k)) ∧ Below w.heap.size w w' := by
  have t3 := kPt_ge (fun i => pL (gq x.parts i)) (kB3 x k) x.parts.length
  have t2 := kSp_ge (fun i => (gp x.spots i).may.length) (kB1 x k) x.spots.length
  have e3 : kB3 x k = kB2 x k + x.valves.length := rfl
  have e1 : kB1 x k = k + (x.foes.length * 2 : Nat) := rfl
  have hk4 : kB3 x k ≤ kB4 x k := by unfold kB4; omega
  have hk2 : kB1 x k ≤ kB2 x k := by unfold kB2; omega
  have n1 : ¬ kB1 x k < 0 := by omega
  have n2 : ¬ kB2 x k < 0 := by omega
  have n3 : ¬ kB3 x k < 0 := by omega
  have n4 : ¬ kB4 x k < 0 := by omega
  clear t3 t2
  unfold bookV
  have b0 : Below w.heap.size w (w.alloc (.cells #[.slice af x.foes.length cf, .slice ap x.spots.length cp, .slice av x.valves.length cv, .slice aq x.parts.length cq, .int .i64 x.seen] 38)) := (Below.refl _ _).alloc (Nat.le_refl _) _
  have i0 := Row.new w 38 [.slice af x.foes.length cf, .slice ap x.spots.length cp, .slice av x.valves.length cv, .slice aq x.parts.length cq, .int .i64 x.seen]
  go_enter Tryz.func17, Tryz.ntmps17
  go_wp2_with fail
  refine (heldFoeS_any af x.foes.length cf k _ (h.later b0).foes h0 (by omega)).mono ?_
  rintro e w1 ⟨rfl, hb⟩
  have b1 := b0.trans (hb.mono b0.size)
  have i1 := i0.later hb
  have q1 := i1.cell 1 rfl
  rw [← e1]
  clear b0 i0 hb
  go_wp2_with fail
  refine (heldSpotS_any ap x.spots.length cp A1 _ C1 (kB1 x k) _ (h.later b1).spots (by omega) (by show kB2 x k ≤ _; omega)).mono ?_
  rintro e w2 ⟨rfl, hb⟩
  have b2 := b1.trans (hb.mono b1.size)
  have i2 := i1.later hb
  have q2 := i2.cell 2 rfl
  rw [show kSp (fun i => (gp x.spots i).may.length) (kB1 x k) x.spots.length = kB2 x k from rfl]
  clear b1 i1 hb q1
  go_wp2_with fail
  refine (heldStrings_any av x.valves.length cv (kB2 x k) _ (h.later b2).valves (by omega) (by omega)).mono ?_
  rintro e w3 ⟨rfl, hb⟩
  have b3 := b2.trans (hb.mono b2.size)
  have i3 := i2.later hb
  have q3 := i3.cell 3 rfl
  rw [← e3]
  clear b2 i2 hb q2
  go_wp2_with fail
  refine (heldPartS_any aq x.parts.length cq A2 _ C2 (kB3 x k) _ (h.later b3).parts (by omega) h1).mono ?_
  rintro e w4 ⟨rfl, hb⟩
  have b4 := b3.trans (hb.mono b3.size)
  rw [show kPt (fun i => pL (gq x.parts i)) (kB3 x k) x.parts.length = kB4 x k from rfl]
  clear b3 i3 hb q3
  go_wp2
  go_ret
  exact ⟨rfl, b4⟩

end Go.Proofs.YtfmhkicncgccjaaGreatDoor

/- Copies that own their memory: books. -/
namespace Go.Proofs.YtfmhkicncgccjaaGreatDoor
open Go.RowKit Go.Sort
set_option linter.unusedSimpArgs false
set_option linter.unusedVariables false

set_option maxHeartbeats 2000000 in
theorem toClaimBook_own (x : Book) (af ap av aq : Option Addr) (cf cp cv cq : Nat) (w : World) (hin : BookIn w x af ap av aq) (hr : BookRoom x) :
    Calls Tryz.prog 8 #[bookV x af ap av aq cf cp cv cq] w fun e w' => (∃ b0 b1 b2 b3 A1 C1 A2 C2, e = .returned (bookV x (some ⟨b0, 0, none⟩) (some ⟨b1, 0, none⟩) (some ⟨b2, 0, none⟩) (some ⟨b3, 0, none⟩) x.foes.length x.spots.length x.valves.length x.parts.length) ∧
      OwnBook w' x (some ⟨b0, 0, none⟩) (some ⟨b1, 0, none⟩) (some ⟨b2, 0, none⟩) (some ⟨b3, 0, none⟩) A1 C1 A2 C2 ∧ ∀ y, InBk x (some ⟨b0, 0, none⟩) (some ⟨b1, 0, none⟩) (some ⟨b2, 0, none⟩) (some ⟨b3, 0, none⟩) A1 A2 y → w.heap.size ≤ y) ∧ Below w.heap.size w w' := by
  unfold bookV
  go_enter Tryz.func8, Tryz.ntmps8
  go_wp2_with fail
  have b0 : Below w.heap.size w (((w.alloc (.cells #[.slice af x.foes.length cf, .slice ap x.spots.length cp, .slice av x.valves.length cv, .slice aq x.parts.length cq, .int .i64 x.seen] 27)).alloc (.cells #[.slice none 0 0, .slice none 0 0, .slice none 0 0, .slice none 0 0, .int .i64 0] 38)).alloc (.cells #[.slice none 0 0, .slice none 0 0, .slice none 0 0, .slice none 0 0, .int .i64 0] 38)) :=
    (((Below.refl _ _).alloc (Nat.le_refl _) _).alloc (by simp) _).alloc (by simp; omega) _
  have i0 : Row (((w.alloc (.cells #[.slice af x.foes.length cf, .slice ap x.spots.length cp, .slice av x.valves.length cv, .slice aq x.parts.length cq, .int .i64 x.seen] 27)).alloc (.cells #[.slice none 0 0, .slice none 0 0, .slice none 0 0, .slice none 0 0, .int .i64 0] 38)).alloc (.cells #[.slice none 0 0, .slice none 0 0, .slice none 0 0, .slice none 0 0, .int .i64 0] 38)) w.heap.size 27 [.slice af x.foes.length cf, .slice ap x.spots.length cp, .slice av x.valves.length cv, .slice aq x.parts.length cq, .int .i64 x.seen] := ((Row.new _ _ _).alloc _).alloc _
  have z0 : Row (((w.alloc (.cells #[.slice af x.foes.length cf, .slice ap x.spots.length cp, .slice av x.valves.length cv, .slice aq x.parts.length cq, .int .i64 x.seen] 27)).alloc (.cells #[.slice none 0 0, .slice none 0 0, .slice none 0 0, .slice none 0 0, .int .i64 0] 38)).alloc (.cells #[.slice none 0 0, .slice none 0 0, .slice none 0 0, .slice none 0 0, .int .i64 0] 38)) (w.heap.size + 1) 38 [.slice none 0 0, .slice none 0 0, .slice none 0 0, .slice none 0 0, .int .i64 0] := by
    have := (Row.new (w.alloc (.cells #[.slice af x.foes.length cf, .slice ap x.spots.length cp, .slice av x.valves.length cv, .slice aq x.parts.length cq, .int .i64 x.seen] 27)) 38 [.slice none 0 0, .slice none 0 0, .slice none 0 0, .slice none 0 0, .int .i64 0]).alloc (.cells #[.slice none 0 0, .slice none 0 0, .slice none 0 0, .slice none 0 0, .int .i64 0] 38)
    simpa using this
  have o0 : Row (((w.alloc (.cells #[.slice af x.foes.length cf, .slice ap x.spots.length cp, .slice av x.valves.length cv, .slice aq x.parts.length cq, .int .i64 x.seen] 27)).alloc (.cells #[.slice none 0 0, .slice none 0 0, .slice none 0 0, .slice none 0 0, .int .i64 0] 38)).alloc (.cells #[.slice none 0 0, .slice none 0 0, .slice none 0 0, .slice none 0 0, .int .i64 0] 38)) (w.heap.size + 1 + 1) 38 [.slice none 0 0, .slice none 0 0, .slice none 0 0, .slice none 0 0, .int .i64 0] := by
    have := Row.new ((w.alloc (.cells #[.slice af x.foes.length cf, .slice ap x.spots.length cp, .slice av x.valves.length cv, .slice aq x.parts.length cq, .int .i64 x.seen] 27)).alloc (.cells #[.slice none 0 0, .slice none 0 0, .slice none 0 0, .slice none 0 0, .int .i64 0] 38)) 38 [.slice none 0 0, .slice none 0 0, .slice none 0 0, .slice none 0 0, .int .i64 0]
    simpa using this
  have hs0 : w.heap.size + 3 ≤ (((w.alloc (.cells #[.slice af x.foes.length cf, .slice ap x.spots.length cp, .slice av x.valves.length cv, .slice aq x.parts.length cq, .int .i64 x.seen] 27)).alloc (.cells #[.slice none 0 0, .slice none 0 0, .slice none 0 0, .slice none 0 0, .int .i64 0] 38)).alloc (.cells #[.slice none 0 0, .slice none 0 0, .slice none 0 0, .slice none 0 0, .int .i64 0] 38)).heap.size := by simp
  have hne : w.heap.size ≠ w.heap.size + 1 + 1 := by omega
  refine (toClaimFoeS_own af cf x.foes _ (hin.later b0).foes hr.foes).mono ?_
  rintro e w1 ⟨⟨d0, rfl, hd0, hx0, t0⟩, hb⟩
  have hs1 := Nat.le_trans hs0 hb.size
  have hd0' : w.heap.size + 1 + 1 < d0 := by omega
  have b1 := b0.trans (hb.mono b0.size)
  have i1 := i0.later hb
  have z1 := z0.later hb
  have o1 := o0.later hb
  clear b0 i0 z0 o0 hb hs0 hd0
  have q1 := i1.cell 1 rfl
  have f0 := o1.frozen 0
  have g0 := o1.cell 0 rfl
  go_wp2_with fail
  have b1' := b1.setCell (p := ⟨w.heap.size + 1 + 1, 0, none⟩) (by simp; omega) (.slice (some ⟨d0, 0, none⟩) x.foes.length x.foes.length)
  have i1' := i1.other (a := ⟨w.heap.size + 1 + 1, 0, none⟩) hne (.slice (some ⟨d0, 0, none⟩) x.foes.length x.foes.length)
  have z1' := z1.other (a := ⟨w.heap.size + 1 + 1, 0, none⟩) (by simp) (.slice (some ⟨d0, 0, none⟩) x.foes.length x.foes.length)
  have o1' := o1.set 0 (.slice (some ⟨d0, 0, none⟩) x.foes.length x.foes.length)
  have t0' := OwnL.setOther t0 (p := ⟨w.heap.size + 1 + 1, 0, none⟩) (fun b o h => by cases h; exact Nat.ne_of_gt hd0') (.slice (some ⟨d0, 0, none⟩) x.foes.length x.foes.length)
  have hs1' : w.heap.size + 3 ≤ (w1.setCell ⟨w.heap.size + 1 + 1, 0, none⟩ (.slice (some ⟨d0, 0, none⟩) x.foes.length x.foes.length)).heap.size := by rw [Go.Deep.nblk_setCell]; exact hs1
  refine (toClaimSpotS_own ap cp x.spots _ (hin.later b1').spots hr.spots hr.mays).mono ?_
  clear q1 f0 g0
  rintro e w2 ⟨⟨d1, A1, C1, rfl, hd1, t1, lo1⟩, hb⟩
  have n1 := Go.Deep.nblk_setCell w1 ⟨w.heap.size + 1 + 1, 0, none⟩ (.slice (some ⟨d0, 0, none⟩) x.foes.length x.foes.length)
  have LO1 : Hid (∀ y, InSp (some ⟨d1, 0, none⟩) x.spots A1 y → w1.heap.size ≤ y ∧ y < w2.heap.size ∧ w.heap.size + 3 ≤ y) := fun y hy => ⟨by have := lo1 y hy; omega, t1.lt hy, by have := lo1 y hy; omega⟩
  clear lo1
  have z12 : w1.heap.size ≤ w2.heap.size := by have := hb.size; omega
  have hd1' : w.heap.size + 1 + 1 < d1 := by omega
  have hs2 := Nat.le_trans hs1' hb.size
  have b2 := b1'.trans (hb.mono b1'.size)
  have i2 := i1'.later hb
  have z2 := z1'.later hb
  have o2 := o1'.later hb
  have t0 := OwnL.later t0' hb
  clear b1 i1 z1 o1 b1' i1' z1' o1' hb hs1 hs1' hd1 t0'
  have q2 := i2.cell 2 rfl
  have f1 := o2.frozen 1
  have g1 := o2.cell 1 rfl
  go_wp2_with fail
  have b2' := b2.setCell (p := ⟨w.heap.size + 1 + 1, 1, none⟩) (by simp; omega) (.slice (some ⟨d1, 0, none⟩) x.spots.length x.spots.length)
  have i2' := i2.other (a := ⟨w.heap.size + 1 + 1, 1, none⟩) hne (.slice (some ⟨d1, 0, none⟩) x.spots.length x.spots.length)
  have z2' := z2.other (a := ⟨w.heap.size + 1 + 1, 1, none⟩) (by simp) (.slice (some ⟨d1, 0, none⟩) x.spots.length x.spots.length)
  have o2' := o2.set 1 (.slice (some ⟨d1, 0, none⟩) x.spots.length x.spots.length)
  have t0' := OwnL.setOther t0 (p := ⟨w.heap.size + 1 + 1, 1, none⟩) (fun b o h => by cases h; exact Nat.ne_of_gt hd0') (.slice (some ⟨d1, 0, none⟩) x.spots.length x.spots.length)
  have t1' := t1.only (Only.cell _ ⟨w.heap.size + 1 + 1, 1, none⟩ (.slice (some ⟨d1, 0, none⟩) x.spots.length x.spots.length)) (fun y hy e => by have := (LO1.out y hy).2.2; simp only at e; omega)
  have hs2' : w.heap.size + 3 ≤ (w2.setCell ⟨w.heap.size + 1 + 1, 1, none⟩ (.slice (some ⟨d1, 0, none⟩) x.spots.length x.spots.length)).heap.size := by rw [Go.Deep.nblk_setCell]; exact hs2
  refine (toStringS_own av cv x.valves _ (hin.later b2').valves hr.valves).mono ?_
  clear q2 f1 g1
  rintro e w3 ⟨⟨d2, rfl, hd2, hx2, t2⟩, hb⟩
  have n2 := Go.Deep.nblk_setCell w2 ⟨w.heap.size + 1 + 1, 1, none⟩ (.slice (some ⟨d1, 0, none⟩) x.spots.length x.spots.length)
  have hd2w : w2.heap.size ≤ d2 := by omega
  have z23 : w2.heap.size ≤ w3.heap.size := by have := hb.size; omega
  have hd2' : w.heap.size + 1 + 1 < d2 := by omega
  have hs3 := Nat.le_trans hs2' hb.size
  have b3 := b2'.trans (hb.mono b2'.size)
  have i3 := i2'.later hb
  have z3 := z2'.later hb
  have o3 := o2'.later hb
  have t0 := OwnL.later t0' hb
  have t1 := t1'.later hb
  clear b2 i2 z2 o2 b2' i2' z2' o2' hb hs2 hs2' hd2 t0' t1'
  have q3 := i3.cell 3 rfl
  have f2 := o3.frozen 2
  have g2 := o3.cell 2 rfl
  go_wp2_with fail
  have b3' := b3.setCell (p := ⟨w.heap.size + 1 + 1, 2, none⟩) (by simp; omega) (.slice (some ⟨d2, 0, none⟩) x.valves.length x.valves.length)
  have i3' := i3.other (a := ⟨w.heap.size + 1 + 1, 2, none⟩) hne (.slice (some ⟨d2, 0, none⟩) x.valves.length x.valves.length)
  have z3' := z3.other (a := ⟨w.heap.size + 1 + 1, 2, none⟩) (by simp) (.slice (some ⟨d2, 0, none⟩) x.valves.length x.valves.length)
  have o3' := o3.set 2 (.slice (some ⟨d2, 0, none⟩) x.valves.length x.valves.length)
  have t0' := OwnL.setOther t0 (p := ⟨w.heap.size + 1 + 1, 2, none⟩) (fun b o h => by cases h; exact Nat.ne_of_gt hd0') (.slice (some ⟨d2, 0, none⟩) x.valves.length x.valves.length)
  have t1' := t1.only (Only.cell _ ⟨w.heap.size + 1 + 1, 2, none⟩ (.slice (some ⟨d2, 0, none⟩) x.valves.length x.valves.length)) (fun y hy e => by have := (LO1.out y hy).2.2; simp only at e; omega)
  have t2' := OwnL.setOther t2 (p := ⟨w.heap.size + 1 + 1, 2, none⟩) (fun b o h => by cases h; exact Nat.ne_of_gt hd2') (.slice (some ⟨d2, 0, none⟩) x.valves.length x.valves.length)
  have hs3' : w.heap.size + 3 ≤ (w3.setCell ⟨w.heap.size + 1 + 1, 2, none⟩ (.slice (some ⟨d2, 0, none⟩) x.valves.length x.valves.length)).heap.size := by rw [Go.Deep.nblk_setCell]; exact hs3
  refine (toClaimPartS_own aq cq x.parts _ (hin.later b3').parts hr.parts hr.wants).mono ?_
  clear q3 f2 g2
  rintro e w4 ⟨⟨d3, A2, C2, rfl, hd3, t3, lo3⟩, hb⟩
  have n3 := Go.Deep.nblk_setCell w3 ⟨w.heap.size + 1 + 1, 2, none⟩ (.slice (some ⟨d2, 0, none⟩) x.valves.length x.valves.length)
  have LO3 : Hid (∀ y, InPt (some ⟨d3, 0, none⟩) x.parts A2 y → w3.heap.size ≤ y ∧ w.heap.size + 3 ≤ y) := fun y hy => ⟨by have := lo3 y hy; omega, by have := lo3 y hy; omega⟩
  clear lo3
  have hd3' : w.heap.size + 1 + 1 < d3 := by omega
  have hs4 := Nat.le_trans hs3' hb.size
  have b4 := b3'.trans (hb.mono b3'.size)
  have i4 := i3'.later hb
  have z4 := z3'.later hb
  have o4 := o3'.later hb
  have t0 := OwnL.later t0' hb
  have t1 := t1'.later hb
  have t2 := OwnL.later t2' hb
  clear b3 i3 z3 o3 b3' i3' z3' o3' hb hs3 hs3' hd3 t0' t1' t2'
  have q4 := i4.cell 4 rfl
  have f3 := o4.frozen 3
  have f4 := o4.frozen 4
  have g0 := o4.cell 0 rfl
  have r0 := z4.cell 0 rfl
  have k0 := z4.frozen 0
  have g1 := o4.cell 1 rfl
  have r1 := z4.cell 1 rfl
  have k1 := z4.frozen 1
  have g2 := o4.cell 2 rfl
  have r2 := z4.cell 2 rfl
  have k2 := z4.frozen 2
  have g3 := o4.cell 3 rfl
  have r3 := z4.cell 3 rfl
  have k3 := z4.frozen 3
  have g4 := o4.cell 4 rfl
  have r4 := z4.cell 4 rfl
  have k4 := z4.frozen 4
  have hne2 : w.heap.size + 1 ≠ w.heap.size + 1 + 1 := by omega
  have base : OwnBook w4 x (some ⟨d0, 0, none⟩) (some ⟨d1, 0, none⟩) (some ⟨d2, 0, none⟩) (some ⟨d3, 0, none⟩) A1 C1 A2 C2 := by
    refine ⟨t0, t1, t2, t3, fun y hy hy' => ?_, fun y hy hy' => ?_, fun y hy hy' => ?_, fun y hy hy' => ?_, fun y hy hy' => ?_, fun y hy hy' => ?_⟩
    · have := inSlot_some hy; have := LO1.out y hy'; omega
    · have := inSlot_some hy; have := inSlot_some hy'; omega
    · have := inSlot_some hy; have := LO3.out y hy'; omega
    · have := inSlot_some hy'; have := LO1.out y hy; omega
    · have := LO1.out y hy; have := LO3.out y hy'; omega
    · have := inSlot_some hy; have := LO3.out y hy'; omega
  have hlo : ∀ y, InBk x (some ⟨d0, 0, none⟩) (some ⟨d1, 0, none⟩) (some ⟨d2, 0, none⟩) (some ⟨d3, 0, none⟩) A1 A2 y → w.heap.size + 3 ≤ y := fun y hy => by
    rcases hy with hy | hy | hy | hy
    · have := inSlot_some hy; omega
    · exact (LO1.out y hy).2.2
    · have := inSlot_some hy; omega
    · exact (LO3.out y hy).2
  have HB : Hid (OwnBook w4 x (some ⟨d0, 0, none⟩) (some ⟨d1, 0, none⟩) (some ⟨d2, 0, none⟩) (some ⟨d3, 0, none⟩) A1 C1 A2 C2 ∧ ∀ y, InBk x (some ⟨d0, 0, none⟩) (some ⟨d1, 0, none⟩) (some ⟨d2, 0, none⟩) (some ⟨d3, 0, none⟩) A1 A2 y → w.heap.size + 3 ≤ y) := ⟨base, hlo⟩
  clear base hlo LO1 LO3 hx0 hx2 n1 n2 n3 hd2w z12 z23
  clear t0 t1 t2 t3
  go_wp2
  refine bodyPost_ret (v := .agg #[.slice (some ⟨d0, 0, none⟩) x.foes.length x.foes.length, .slice (some ⟨d1, 0, none⟩) x.spots.length x.spots.length, .slice (some ⟨d2, 0, none⟩) x.valves.length x.valves.length, .slice (some ⟨d3, 0, none⟩) x.parts.length x.parts.length, .int .i64 x.seen])
    (by simp [results, Tryz.results8, go_sem, r0, r1, r2, r3, r4]) rfl ⟨⟨d0, d1, d2, d3, A1, C1, A2, C2, rfl, ?_, fun y hy => by have := HB.out.2 y hy; omega⟩, ?_⟩
  · obtain ⟨base, hlo⟩ := HB.out
    have g1 : ∀ y, InBk x (some ⟨d0, 0, none⟩) (some ⟨d1, 0, none⟩) (some ⟨d2, 0, none⟩) (some ⟨d3, 0, none⟩) A1 A2 y → ¬ y = w.heap.size + 1 := fun y hy => by have := hlo y hy; omega
    have g2 : ∀ y, InBk x (some ⟨d0, 0, none⟩) (some ⟨d1, 0, none⟩) (some ⟨d2, 0, none⟩) (some ⟨d3, 0, none⟩) A1 A2 y → ¬ y = w.heap.size + 1 + 1 := fun y hy => by have := hlo y hy; omega
    exact ((((((base.only (Only.cell _ ⟨w.heap.size + 1 + 1, 3, none⟩ _) g2).only (Only.cell _ ⟨w.heap.size + 1 + 1, 4, none⟩ _) g2).only (Only.cell _ ⟨w.heap.size + 1, 0, none⟩ _) g1).only (Only.cell _ ⟨w.heap.size + 1, 1, none⟩ _) g1).only (Only.cell _ ⟨w.heap.size + 1, 2, none⟩ _) g1).only (Only.cell _ ⟨w.heap.size + 1, 3, none⟩ _) g1).only (Only.cell _ ⟨w.heap.size + 1, 4, none⟩ _) g1
  · exact ((((((b4.setCell (by simp; omega) _).setCell (by simp; omega) _).setCell (by simp) _).setCell (by simp) _).setCell (by simp) _).setCell (by simp) _).setCell (by simp) _

end Go.Proofs.YtfmhkicncgccjaaGreatDoor

/- What the laws that answer books hold: three books in memory, apart from each other. -/
namespace Go.Proofs.YtfmhkicncgccjaaGreatDoor
open Go.RowKit Go.Sort
set_option linter.unusedSimpArgs false
set_option linter.unusedVariables false

theorem kB4_one (x : Book) : 1 ≤ kB4 x 1 := by
  have t3 := kPt_ge (fun i => pL (gq x.parts i)) (kB3 x 1) x.parts.length
  have t2 := kSp_ge (fun i => (gp x.spots i).may.length) (kB1 x 1) x.spots.length
  have e3 : kB3 x 1 = kB2 x 1 + x.valves.length := rfl
  have e1 : kB1 x 1 = 1 + (x.foes.length * 2 : Nat) := rfl
  have e2 : kB2 x 1 = kSp (fun i => (gp x.spots i).may.length) (kB1 x 1) x.spots.length := rfl
  have e4 : kB4 x 1 = kPt (fun i => pL (gq x.parts i)) (kB3 x 1) x.parts.length := rfl
  omega
/-- A book, owned, and a variable that holds it. -/
structure Boxed (W : World) (B : Nat) (x : Book) (f0 f1 f2 f3 : Option Addr) (k0 k1 k2 k3 : Nat) (A1 : Nat → Option Addr) (C1 : Nat → Nat) (A2 : Nat → Nat → Option Addr) (C2 : Nat → Nat → Nat) : Prop where
  row : Row W B 38 [.slice f0 x.foes.length k0, .slice f1 x.spots.length k1, .slice f2 x.valves.length k2, .slice f3 x.parts.length k3, .int .i64 x.seen]
  own : OwnBook W x f0 f1 f2 f3 A1 C1 A2 C2
theorem Boxed.only {D : Nat → Prop} {W W' : World} {B : Nat} {x : Book} {f0 f1 f2 f3 : Option Addr} {k0 k1 k2 k3 : Nat} {A1 : Nat → Option Addr} {C1 : Nat → Nat} {A2 : Nat → Nat → Option Addr} {C2 : Nat → Nat → Nat} (h : Boxed W B x f0 f1 f2 f3 k0 k1 k2 k3 A1 C1 A2 C2) (ho : Only D W W') (hB : ¬ D B) (hD : ∀ y, InBk x f0 f1 f2 f3 A1 A2 y → ¬ D y) : Boxed W' B x f0 f1 f2 f3 k0 k1 k2 k3 A1 C1 A2 C2 :=
  ⟨h.row.only ho hB, h.own.only ho hD⟩
theorem Boxed.later {W W' : World} {B : Nat} {x : Book} {f0 f1 f2 f3 : Option Addr} {k0 k1 k2 k3 : Nat} {A1 : Nat → Option Addr} {C1 : Nat → Nat} {A2 : Nat → Nat → Option Addr} {C2 : Nat → Nat → Nat} (h : Boxed W B x f0 f1 f2 f3 k0 k1 k2 k3 A1 C1 A2 C2) (hb : Below W.heap.size W W') : Boxed W' B x f0 f1 f2 f3 k0 k1 k2 k3 A1 C1 A2 C2 :=
  ⟨h.row.later hb, h.own.later hb⟩
theorem Boxed.new {w : World} {x : Book} {f0 f1 f2 f3 : Option Addr} (k0 k1 k2 k3 : Nat) {A1 : Nat → Option Addr} {C1 : Nat → Nat} {A2 : Nat → Nat → Option Addr} {C2 : Nat → Nat → Nat} (h : OwnBook w x f0 f1 f2 f3 A1 C1 A2 C2) :
    Boxed (w.alloc (.cells #[.slice f0 x.foes.length k0, .slice f1 x.spots.length k1, .slice f2 x.valves.length k2, .slice f3 x.parts.length k3, .int .i64 x.seen] 38)) w.heap.size x f0 f1 f2 f3 k0 k1 k2 k3 A1 C1 A2 C2 :=
  ⟨Row.new _ _ _, h.later ((Below.refl _ _).alloc (Nat.le_refl _) _)⟩
theorem Boxed.cells {W : World} {B : Nat} {x : Book} {f0 f1 f2 f3 : Option Addr} {k0 k1 k2 k3 : Nat} {A1 : Nat → Option Addr} {C1 : Nat → Nat} {A2 : Nat → Nat → Option Addr} {C2 : Nat → Nat → Nat} (h : Boxed W B x f0 f1 f2 f3 k0 k1 k2 k3 A1 C1 A2 C2) :
    W.cell? ⟨B, 0, none⟩ = some (.slice f0 x.foes.length k0) ∧ W.cell? ⟨B, 1, none⟩ = some (.slice f1 x.spots.length k1) ∧ W.cell? ⟨B, 2, none⟩ = some (.slice f2 x.valves.length k2) ∧ W.cell? ⟨B, 3, none⟩ = some (.slice f3 x.parts.length k3) ∧ W.cell? ⟨B, 4, none⟩ = some (.int .i64 x.seen) ∧ B < W.heap.size :=
  ⟨h.row.cell 0 rfl, h.row.cell 1 rfl, h.row.cell 2 rfl, h.row.cell 3 rfl, h.row.cell 4 rfl, h.row.lt⟩

end Go.Proofs.YtfmhkicncgccjaaGreatDoor

/- The marks of a want; and, plain: that the book behind ClaimGrant fits. -/
namespace Go.Proofs.YtfmhkicncgccjaaGreatDoor
open Go.RowKit Go.Sort
set_option linter.unusedSimpArgs false
set_option linter.unusedVariables false

theorem OwnW.only {B : Nat → Prop} {w w' : World} {x : Want} {b2 b3 b4 b5 : Nat} (h : OwnW w x b2 b3 b4 b5) (ho : Only B w w') (h2 : ¬ B b2) (h3 : ¬ B b3) (h4 : ¬ B b4) (h5 : ¬ B b5) : OwnW w' x b2 b3 b4 b5 :=
  ⟨h.stuffs.only ho (fun q hq => by rw [inSlot_some hq]; exact h2), h.uses.only ho (fun q hq => by rw [inSlot_some hq]; exact h3), h.opens.only ho (fun q hq => by rw [inSlot_some hq]; exact h4), h.shuts.only ho (fun q hq => by rw [inSlot_some hq]; exact h5)⟩
/-- The four blocks of a want. -/
def InW (b2 b3 b4 b5 : Nat) (q : Nat) : Prop := q = b2 ∨ q = b3 ∨ q = b4 ∨ q = b5

set_option maxRecDepth 100000 in
set_option maxHeartbeats 2000000 in
theorem markWant_any (y : Want) (b2 b3 b4 b5 : Nat) (c2 c3 c4 c5 : Nat) (k : Int) (w : World) (h : OwnW w y b2 b3 b4 b5) (h23 : b2 < b3) (h34 : b3 < b4) (h45 : b4 < b5) (h5w : b5 < w.heap.size) (hR : WantRoom y) (h0 : 0 ≤ k) (h1 : k ≤ 100000000) :
    Calls Tryz.prog 16 #[wantW y (some ⟨b2, 0, none⟩) (some ⟨b3, 0, none⟩) (some ⟨b4, 0, none⟩) (some ⟨b5, 0, none⟩) c2 c3 c4 c5, .int .i64 k] w fun e w' => (∃ r : Int, e = .returned (.int .i64 r) ∧ 0 ≤ r) ∧ Only (InW b2 b3 b4 b5) w w' := by
  obtain ⟨r2, r3, r4, r5⟩ := hR
  unfold wantW
  obtain ⟨W0, hW0⟩ : ∃ W, W = w.alloc (.cells #[.int .i64 y.number, .int .i64 y.kind, .slice (some ⟨b2, 0, none⟩) y.stuffs.length c2, .slice (some ⟨b3, 0, none⟩) y.uses.length c3, .slice (some ⟨b4, 0, none⟩) y.opens.length c4, .slice (some ⟨b5, 0, none⟩) y.shuts.length c5] 42) := ⟨_, rfl⟩
  have v0 : Below w.heap.size w W0 := by rw [hW0]; exact (Below.refl _ _).alloc (Nat.le_refl _) _
  have i0 : Row W0 w.heap.size 42 [.int .i64 y.number, .int .i64 y.kind, .slice (some ⟨b2, 0, none⟩) y.stuffs.length c2, .slice (some ⟨b3, 0, none⟩) y.uses.length c3, .slice (some ⟨b4, 0, none⟩) y.opens.length c4, .slice (some ⟨b5, 0, none⟩) y.shuts.length c5] := by rw [hW0]; exact Row.new _ _ _
  have o0 := h.later v0
  have u0 := Only.of (B := InW b2 b3 b4 b5) v0
  clear h
  go_enter Tryz.func16, Tryz.ntmps16
  go_wp2_with fail
  rw [← hW0]
  clear hW0
  refine (markStrings_any (some ⟨b2, 0, none⟩) y.stuffs.length c2 k W0 o0.stuffs.slot h0 (by omega)).mono ?_
  rintro e w1 ⟨rfl, -, O1⟩
  have n1 : ∀ b, b ≠ b2 → ¬ InSlot (some ⟨b2, 0, none⟩) y.stuffs.length b := fun b hb hq => hb (inSlot_some hq)
  have i1 := i0.only O1 (n1 _ (by omega))
  have s3 := (o0.uses.only O1 (fun q hq => n1 q (by rw [inSlot_some hq]; omega))).slot
  have p4 := o0.opens.only O1 (fun q hq => n1 q (by rw [inSlot_some hq]; omega))
  have p5 := o0.shuts.only O1 (fun q hq => n1 q (by rw [inSlot_some hq]; omega))
  have u1 := u0.trans (O1.mono (fun q hq => Or.inl (inSlot_some hq)))
  clear O1 o0 i0 u0 n1 v0
  have g3 := i1.cell 3 rfl
  go_wp2_with fail
  refine (markUseS_any (some ⟨b3, 0, none⟩) y.uses.length c3 (k + y.stuffs.length) w1 s3 (by omega) (by omega)).mono ?_
  rintro e w2 ⟨rfl, -, O2⟩
  have n2 : ∀ b, b ≠ b3 → ¬ InSlot (some ⟨b3, 0, none⟩) y.uses.length b := fun b hb hq => hb (inSlot_some hq)
  have i2 := i1.only O2 (n2 _ (by omega))
  have s4 := (p4.only O2 (fun q hq => n2 q (by rw [inSlot_some hq]; omega))).slot
  have p5' := p5.only O2 (fun q hq => n2 q (by rw [inSlot_some hq]; omega))
  have u2 := u1.trans (O2.mono (fun q hq => Or.inr (Or.inl (inSlot_some hq))))
  clear O2 i1 u1 n2 s3 p4 p5 g3
  generalize hk2 : k + y.stuffs.length + (y.uses.length * 3 : Nat) = K2
  have hK2 : 0 ≤ K2 ∧ K2 ≤ 200000000 := by omega
  clear hk2
  have g4 := i2.cell 4 rfl
  go_wp2_with fail
  refine (markStrings_any (some ⟨b4, 0, none⟩) y.opens.length c4 K2 w2 s4 (by omega) (by omega)).mono ?_
  rintro e w3 ⟨rfl, -, O3⟩
  have n3 : ∀ b, b ≠ b4 → ¬ InSlot (some ⟨b4, 0, none⟩) y.opens.length b := fun b hb hq => hb (inSlot_some hq)
  have i3 := i2.only O3 (n3 _ (by omega))
  have s5 := (p5'.only O3 (fun q hq => n3 q (by rw [inSlot_some hq]; omega))).slot
  have u3 := u2.trans (O3.mono (fun q hq => Or.inr (Or.inr (Or.inl (inSlot_some hq)))))
  clear O3 i2 u2 n3 s4 p5' g4
  have g5 := i3.cell 5 rfl
  go_wp2_with fail
  refine (markStrings_any (some ⟨b5, 0, none⟩) y.shuts.length c5 (K2 + y.opens.length) w3 s5 (by omega) (by omega)).mono ?_
  rintro e w4 ⟨rfl, -, O4⟩
  have u4 := u3.trans (O4.mono (fun q hq => Or.inr (Or.inr (Or.inr (inSlot_some hq)))))
  clear O4 i3 u3 s5 g5
  go_wp2
  go_ret
  exact ⟨⟨_, rfl, by omega⟩, u4⟩

theorem mem_insTo {l ss : List ByteArray} {t : ByteArray} : ∀ k, t ∈ insTo l ss k → t ∈ l ∨ t ∈ ss
  | 0, h => by rw [insTo_zero] at h; exact Or.inl h
  | k + 1, h => by
    by_cases hk : k < ss.length
    · rw [insTo_succ hk] at h
      have hm : ∀ (l : List ByteArray) (s : ByteArray), t ∈ insS l s → t ∈ l ∨ t = s := by
        intro l s
        induction l with
        | nil => intro h; simp [insS] at h; exact Or.inr h
        | cons a r ih =>
          unfold insS
          split
          · intro h
            rcases List.mem_cons.1 h with h | h
            · exact Or.inl (List.mem_cons.2 (Or.inl h))
            · rcases ih h with h | h
              · exact Or.inl (List.mem_cons_of_mem _ h)
              · exact Or.inr h
          · split
            · intro h; exact Or.inl h
            · intro h
              rcases List.mem_cons.1 h with h | h
              · exact Or.inr h
              · exact Or.inl h
      rcases hm _ _ h with h | h
      · exact mem_insTo k h
      · exact Or.inr (h ▸ (by rw [gs_lt hk]; exact List.getElem_mem _))
    · have e : insTo l ss (k + 1) = insTo l ss k := by
        unfold insTo
        rw [List.take_of_length_le (by omega), List.take_of_length_le (by omega)]
      rw [e] at h
      exact mem_insTo k h
theorem bookFit_nil : BookFit bookNil := ⟨⟨by simp [bookNil], by simp [bookNil]⟩, ⟨by simp [bookNil], by simp [bookNil]⟩, ⟨by simp [bookNil], by simp [bookNil]⟩, ⟨by simp [bookNil], by simp [bookNil]⟩⟩
theorem putAt_fit {x : Book} {y : Want} (hb : bookB x = true) (fx : BookFit x) (fy : WantFit y) (hw : wantB y = true) : BookFit (putAt (seenAt x y.number) y) := by
  have hs := bookB_small hb
  have hy := wantB_small hw
  have hM : (1000 : Nat) ≤ maxLen := by unfold maxLen; omega
  refine ⟨fx.foes, ⟨?_, fun s hs' => ?_⟩, fx.valves, ⟨?_, fun p hp => ?_⟩⟩
  · show (upTo _ x.spots _ _).length ≤ _
    rw [upTo_length]; exact fx.spots.len
  · obtain ⟨j, hj, rfl⟩ := mem_upTo hs'
    have h1 := (upTo_grant hw (levels_of hb) y.uses.length (Nat.le_refl _) j hj).2
    have h2 := upTo_all (f := grantS y.stuffs) (ss := x.spots) (us := y.uses) (R := fun _ _ s => s.name.size ≤ maxLen ∧ ∀ t ∈ s.may, t.size ≤ maxLen) (fun j hj => ⟨(fx.spots.names _ (gp_mem hj)).1, (fx.spots.names _ (gp_mem hj)).2.2⟩) (fun _ _ _ _ h => h) (fun k j s hk h => ⟨h.1, fun t ht => by
      unfold grantS at ht
      dsimp only at ht
      split at ht
      · exact h.2 t ht
      · rcases mem_insTo _ ht with h' | h'
        · exact h.2 t h'
        · exact fy.stuffs.2 t h'⟩) y.uses.length (Nat.le_refl _) j hj
    refine ⟨h2.1, ?_, h2.2⟩
    show (gp (upTo (grantS y.stuffs) x.spots y.uses y.uses.length) j).may.length ≤ _
    omega
  · show (x.parts ++ [_]).length ≤ _
    simp; omega
  · rcases List.mem_append.1 hp with h | h
    · exact fx.parts.wants p h
    · rw [List.mem_singleton.1 h]; exact fy
theorem grantB_fit {x : Book} {y : Want} (fx : BookFit x) (fy : WantFit y) : BookFit (grantB x y) := by
  cases hB : bookB x with
  | false => have : grantB x y = bookNil := by simp [grantB, hB]
             rw [this]; exact bookFit_nil
  | true =>
    obtain ⟨-, -, -, hways⟩ := code_ways (y := y) hB
    unfold grantB
    rw [hB, if_pos rfl]
    rcases hways with ⟨h, -⟩ | ⟨hnA, h⟩
    · rw [if_pos h]; exact fx
    · rw [if_neg hnA]
      rcases h with h | h
      · rw [if_pos h.1]; exact putAt_fit hB fx fy h.2.1
      · rw [if_neg (by omega)]; exact ⟨fx.foes, fx.spots, fx.valves, fx.parts⟩
theorem sumTo_le {n c : Nat} {f : Nat → Nat} (h : ∀ i, i < n → f i ≤ c) : sumTo n f ≤ n * c := by
  induction n with
  | zero => simp [sumTo]
  | succ n ih =>
    rw [sumTo_succ, Nat.add_mul, Nat.one_mul]
    have := ih (fun i hi => h i (by omega))
    have := h n (by omega)
    omega
theorem parts_small {x : Book} (hb : bookB x = true) {i : Nat} (hi : i < x.parts.length) : wW (gq x.parts i).want ≤ 40 := by
  unfold bookB at hb
  simp only [Bool.and_eq_true] at hb
  have h6 := hb.2
  unfold partsOkB at h6
  rw [Bool.and_eq_true] at h6
  have := partAt_ok (allTo_iff.1 h6.2 i hi)
  unfold partOkB at this
  simp only [Bool.and_eq_true] at this
  have := wantB_small this.1.1.1
  unfold wW
  omega
theorem grantB_room {x : Book} {y : Want} : wB (grantB x y) ≤ wB x + 10000 := by
  cases hB : bookB x with
  | false => have : grantB x y = bookNil := by simp [grantB, hB]
             rw [this]; unfold wB bookNil; simp [sumTo]
  | true =>
    obtain ⟨-, -, -, hways⟩ := code_ways (y := y) hB
    unfold grantB
    rw [hB, if_pos rfl]
    rcases hways with ⟨h, -⟩ | ⟨hnA, h⟩
    · rw [if_pos h]; omega
    · rw [if_neg hnA]
      rcases h with h | h
      · rw [if_pos h.1]
        have hs := bookB_small hB
        have hy := wantB_small h.2.1
        have e1 : sumTo x.spots.length (fun i => (gp (upTo (grantS y.stuffs) x.spots y.uses y.uses.length) i).may.length) ≤ x.spots.length * 72 := sumTo_le (fun i hi => by have := (upTo_grant h.2.1 (levels_of hB) y.uses.length (Nat.le_refl _) i hi).2; omega)
        have e2 : sumTo (x.parts.length + 1) (fun i => wW (gq (x.parts ++ [⟨y, false⟩]) i).want) ≤ (x.parts.length + 1) * 40 := sumTo_le (fun i hi => by
          by_cases e : i = x.parts.length
          · subst e
            have e : gq (x.parts ++ [⟨y, false⟩]) x.parts.length = ⟨y, false⟩ := by unfold gq; simp
            rw [e]; unfold wW; dsimp only; omega
          · have e' : gq (x.parts ++ [⟨y, false⟩]) i = gq x.parts i := by unfold gq; simp [List.getElem?_append_left (show i < x.parts.length by omega)]
            rw [e']; exact parts_small hB (by omega))
        have e3 : wB (putAt (seenAt x y.number) y) = x.foes.length + (x.spots.length + sumTo x.spots.length (fun i => (gp (upTo (grantS y.stuffs) x.spots y.uses y.uses.length) i).may.length)) + x.valves.length + (x.parts.length + 1 + sumTo (x.parts.length + 1) (fun i => wW (gq (x.parts ++ [⟨y, false⟩]) i).want)) := by
          unfold wB putAt seenAt
          dsimp only
          rw [upTo_length, List.length_append]
          rfl
        rw [e3]
        have : x.spots.length * 72 ≤ 8 * 72 := Nat.mul_le_mul_right _ hs.2.1
        have : (x.parts.length + 1) * 40 ≤ 7 * 40 := Nat.mul_le_mul_right _ (by omega)
        omega
      · rw [if_neg (by omega)]
        show wB x ≤ _
        omega
/-- A variable that was there already takes a book in. -/
theorem Boxed.stored {w : World} {B : Nat} {x : Book} {f0 f1 f2 f3 : Option Addr} (k0 k1 k2 k3 : Nat) {A1 : Nat → Option Addr} {C1 : Nat → Nat} {A2 : Nat → Nat → Option Addr} {C2 : Nat → Nat → Nat} {v0 v1 v2 v3 v4 : Value} (hr : Row w B 38 [v0, v1, v2, v3, v4]) (h : OwnBook w x f0 f1 f2 f3 A1 C1 A2 C2) (hf : ∀ q, InBk x f0 f1 f2 f3 A1 A2 q → q ≠ B) :
    Boxed (((((w.setCell ⟨B, 0, none⟩ (.slice f0 x.foes.length k0)).setCell ⟨B, 1, none⟩ (.slice f1 x.spots.length k1)).setCell ⟨B, 2, none⟩ (.slice f2 x.valves.length k2)).setCell ⟨B, 3, none⟩ (.slice f3 x.parts.length k3)).setCell ⟨B, 4, none⟩ (.int .i64 x.seen)) B x f0 f1 f2 f3 k0 k1 k2 k3 A1 C1 A2 C2 :=
  ⟨((((hr.set 0 _).set 1 _).set 2 _).set 3 _).set 4 _, ((((h.only (Only.cell _ ⟨B, 0, none⟩ _) hf).only (Only.cell _ ⟨B, 1, none⟩ _) hf).only (Only.cell _ ⟨B, 2, none⟩ _) hf).only (Only.cell _ ⟨B, 3, none⟩ _) hf).only (Only.cell _ ⟨B, 4, none⟩ _) hf⟩

end Go.Proofs.YtfmhkicncgccjaaGreatDoor
