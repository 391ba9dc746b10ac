/- Joined: OwF, OwP, OwG, OwQ, OwR, OwT, OwH. -/
import Derived.Test.YtfmhkicncgccjaaGreatDoorPe02
import Derived.Maps.AppendAt
import Derived.Deep.AppendLies
import Derived.Deep.RegionHeld3
import Derived.Deep.DeepCutAuto
import Derived.Deep.RegionWith
/- What the program's fresh copies answer: lists that own their memory. -/
namespace Go.Proofs.YtfmhkicncgccjaaGreatDoor
open Go.RowKit Go.Sort
set_option linter.unusedSimpArgs false
set_option linter.unusedVariables false

theorem oneStr (ss : List ByteArray) : ∀ k j, (strF ss k j).oneCell' = true := fun _ _ => rfl
theorem oneUse (us : List Use) : ∀ k j, (useF us k j).oneCell' = true := fun k j => by
  unfold useF
  match j with
  | 0 => rfl
  | 1 => rfl
  | _ + 2 => rfl
theorem oneFoe (us : List Foe) : ∀ k j, (foeF us k j).oneCell' = true := fun k j => by
  unfold foeF
  match j with
  | 0 => rfl
  | _ + 1 => rfl
theorem oneSpot (s : Spot) (m : Option Addr) (c : Nat) : ∀ j, (spotCell s m c j).oneCell' = true := fun j => by
  match j with
  | 0 => rfl
  | 1 => rfl
  | 2 => rfl
  | 3 => rfl
  | _ + 4 => rfl
theorem onePart (p : Part) (A : Nat → Option Addr) (C : Nat → Nat) : ∀ j, (partCell p A C j).oneCell' = true := fun j => by
  match j with
  | 0 => rfl
  | 1 => rfl
  | 2 => rfl
  | 3 => rfl
  | 4 => rfl
  | 5 => rfl
  | _ + 6 => rfl

set_option maxRecDepth 100000 in
set_option maxHeartbeats 2000000 in
theorem freshS_own (a : Option Addr) (n cap : Nat) (f : Nat → Nat → Value) (w : World) (hm : RowAt w a n 1 f) (h1 : ∀ k j, (f k j).oneCell' = true) (hl : n ≤ 1048576) :
    Calls Tryz.prog 90 #[.slice a n cap] w fun e w' => (∃ a' c', e = .returned (.slice a' n c') ∧ OwnL w' 9 1 a' n f ∧ CapOf w' 9 1 a' n c' ∧ (∀ x, InAddr a' x → w.heap.size ≤ x) ∧ (n = 0 → a' = none)) ∧ Below w.heap.size w w' := by
  obtain ⟨t0, hi, hz0, hz1, hz2⟩ := info_parts info9
  cases a with
  | some ad =>
    go_enter Tryz.func90, Tryz.ntmps90
    go_wp2_with (first
      | (at_builtin; refine wpList_append_own _ rfl _ _ 24 rfl w.heap.size 9 t0 (.string .empty) 1 16 Tryz.underlying24 hi hz0 hz1 hz2 rfl (by decide) _ _ _ rfl (World.ownsRow_nil _ _ _ _) ad n cap (flat n 1 f) rfl (flat_length _ _ _) (flat_news hm) (flat_one h1) ?c3 ?c4 ?c5 ?_))
    case c3 => unfold maxLen; omega
    case c4 => omega
    case c5 => exact Nat.le_refl _
    intro v2 w2 hown2 hgrow2 hnil
    have hb2 := (Below.refl w.heap.size w).grown hgrow2 (Nat.le_refl _) (fun g hg => by simp [Value.ownBlock] at hg)
    try simp only [Nat.zero_add, List.nil_append] at hown2
    obtain ⟨a', c', rfl, ho, hx, hc⟩ := OwnL.of_owns2 hown2
    have HN : Hid (n = 0 → a' = none) := fun h0 => by
      have := hnil.2 (by first | exact h0 | exact ⟨rfl, h0⟩)
      simp only [Value.slice.injEq] at this
      exact this.1
    clear hown2 hgrow2 hnil
    go_wp2
    go_ret
    exact ⟨⟨a', c', rfl, ho, hx, hc, HN.out⟩, hb2⟩
  | none =>
    have hn : n = 0 := by
      rcases Nat.eq_zero_or_pos n with h | h
      · exact h
      · obtain ⟨_, _, h, _⟩ := hm 0 h
        cases h
    subst hn
    have hnone : ∀ ty, (Builtin.append_ #[24, 24] ty #[.slice none 0 0, .slice none 0 cap]).run Tryz.prog w = .ok (.slice none 0 0) w := fun ty => by
      simp [Builtin.append_, run_underlying Tryz.underlying24, sizeOf, typeInfo, hi, Builtin.lenOf, Builtin.firstCells, storeCells]
    go_enter Tryz.func90, Tryz.ntmps90
    go_wp2
    go_ret
    exact ⟨⟨none, 0, rfl, Or.inl rfl, Or.inl ⟨rfl, rfl, rfl⟩, (fun x hx => by obtain ⟨o, h⟩ := hx; cases h), fun _ => rfl⟩, Below.refl _ _⟩

set_option maxRecDepth 100000 in
set_option maxHeartbeats 2000000 in
theorem freshU_own (a : Option Addr) (n cap : Nat) (f : Nat → Nat → Value) (w : World) (hm : RowAt w a n 3 f) (h1 : ∀ k j, (f k j).oneCell' = true) (hl : n ≤ 1048576) :
    Calls Tryz.prog 113 #[.slice a n cap] w fun e w' => (∃ a' c', e = .returned (.slice a' n c') ∧ OwnL w' 101 3 a' n f ∧ CapOf w' 101 3 a' n c' ∧ (∀ x, InAddr a' x → w.heap.size ≤ x) ∧ (n = 0 → a' = none)) ∧ Below w.heap.size w w' := by
  obtain ⟨t0, hi, hz0, hz1, hz2⟩ := info_parts infoUse
  cases a with
  | some ad =>
    go_enter Tryz.func113, Tryz.ntmps113
    go_wp2_with (first
      | (at_builtin; refine wpList_append_own _ rfl _ _ 40 rfl w.heap.size 101 t0 (.agg #[.string .empty, .int .i64 0, .int .i64 0]) 3 32 Tryz.underlying40 hi hz0 hz1 hz2 rfl (by decide) _ _ _ rfl (World.ownsRow_nil _ _ _ _) ad n cap (flat n 3 f) rfl (flat_length _ _ _) (flat_news hm) (flat_one h1) ?c3 ?c4 ?c5 ?_))
    case c3 => unfold maxLen; omega
    case c4 => omega
    case c5 => exact Nat.le_refl _
    intro v2 w2 hown2 hgrow2 hnil
    have hb2 := (Below.refl w.heap.size w).grown hgrow2 (Nat.le_refl _) (fun g hg => by simp [Value.ownBlock] at hg)
    try simp only [Nat.zero_add, List.nil_append] at hown2
    obtain ⟨a', c', rfl, ho, hx, hc⟩ := OwnL.of_owns2 hown2
    have HN : Hid (n = 0 → a' = none) := fun h0 => by
      have := hnil.2 (by first | exact h0 | exact ⟨rfl, h0⟩)
      simp only [Value.slice.injEq] at this
      exact this.1
    clear hown2 hgrow2 hnil
    go_wp2
    go_ret
    exact ⟨⟨a', c', rfl, ho, hx, hc, HN.out⟩, hb2⟩
  | none =>
    have hn : n = 0 := by
      rcases Nat.eq_zero_or_pos n with h | h
      · exact h
      · obtain ⟨_, _, h, _⟩ := hm 0 h
        cases h
    subst hn
    have hnone : ∀ ty, (Builtin.append_ #[40, 40] ty #[.slice none 0 0, .slice none 0 cap]).run Tryz.prog w = .ok (.slice none 0 0) w := fun ty => by
      simp [Builtin.append_, run_underlying Tryz.underlying40, sizeOf, typeInfo, hi, Builtin.lenOf, Builtin.firstCells, storeCells]
    go_enter Tryz.func113, Tryz.ntmps113
    go_wp2
    go_ret
    exact ⟨⟨none, 0, rfl, Or.inl rfl, Or.inl ⟨rfl, rfl, rfl⟩, (fun x hx => by obtain ⟨o, h⟩ := hx; cases h), fun _ => rfl⟩, Below.refl _ _⟩

set_option maxRecDepth 100000 in
set_option maxHeartbeats 2000000 in
theorem freshF_own (a : Option Addr) (n cap : Nat) (f : Nat → Nat → Value) (w : World) (hm : RowAt w a n 2 f) (h1 : ∀ k j, (f k j).oneCell' = true) (hl : n ≤ 1048576) :
    Calls Tryz.prog 89 #[.slice a n cap] w fun e w' => (∃ a' c', e = .returned (.slice a' n c') ∧ OwnL w' 105 2 a' n f ∧ CapOf w' 105 2 a' n c' ∧ (∀ x, InAddr a' x → w.heap.size ≤ x) ∧ (n = 0 → a' = none)) ∧ Below w.heap.size w w' := by
  obtain ⟨t0, hi, hz0, hz1, hz2⟩ := info_parts infoFoe
  cases a with
  | some ad =>
    go_enter Tryz.func89, Tryz.ntmps89
    go_wp2_with (first
      | (at_builtin; refine wpList_append_own _ rfl _ _ 34 rfl w.heap.size 105 t0 (.agg #[.string .empty, .string .empty]) 2 32 Tryz.underlying34 hi hz0 hz1 hz2 rfl (by decide) _ _ _ rfl (World.ownsRow_nil _ _ _ _) ad n cap (flat n 2 f) rfl (flat_length _ _ _) (flat_news hm) (flat_one h1) ?c3 ?c4 ?c5 ?_))
    case c3 => unfold maxLen; omega
    case c4 => omega
    case c5 => exact Nat.le_refl _
    intro v2 w2 hown2 hgrow2 hnil
    have hb2 := (Below.refl w.heap.size w).grown hgrow2 (Nat.le_refl _) (fun g hg => by simp [Value.ownBlock] at hg)
    try simp only [Nat.zero_add, List.nil_append] at hown2
    obtain ⟨a', c', rfl, ho, hx, hc⟩ := OwnL.of_owns2 hown2
    have HN : Hid (n = 0 → a' = none) := fun h0 => by
      have := hnil.2 (by first | exact h0 | exact ⟨rfl, h0⟩)
      simp only [Value.slice.injEq] at this
      exact this.1
    clear hown2 hgrow2 hnil
    go_wp2
    go_ret
    exact ⟨⟨a', c', rfl, ho, hx, hc, HN.out⟩, hb2⟩
  | none =>
    have hn : n = 0 := by
      rcases Nat.eq_zero_or_pos n with h | h
      · exact h
      · obtain ⟨_, _, h, _⟩ := hm 0 h
        cases h
    subst hn
    have hnone : ∀ ty, (Builtin.append_ #[34, 34] ty #[.slice none 0 0, .slice none 0 cap]).run Tryz.prog w = .ok (.slice none 0 0) w := fun ty => by
      simp [Builtin.append_, run_underlying Tryz.underlying34, sizeOf, typeInfo, hi, Builtin.lenOf, Builtin.firstCells, storeCells]
    go_enter Tryz.func89, Tryz.ntmps89
    go_wp2
    go_ret
    exact ⟨⟨none, 0, rfl, Or.inl rfl, Or.inl ⟨rfl, rfl, rfl⟩, (fun x hx => by obtain ⟨o, h⟩ := hx; cases h), fun _ => rfl⟩, Below.refl _ _⟩

set_option maxRecDepth 100000 in
set_option maxHeartbeats 2000000 in
theorem freshP_own (a : Option Addr) (n cap : Nat) (f : Nat → Nat → Value) (w : World) (hm : RowAt w a n 5 f) (h1 : ∀ k j, (f k j).oneCell' = true) (hl : n ≤ 1048576) :
    Calls Tryz.prog 91 #[.slice a n cap] w fun e w' => (∃ a' c', e = .returned (.slice a' n c') ∧ OwnL w' 99 5 a' n f ∧ CapOf w' 99 5 a' n c' ∧ (∀ x, InAddr a' x → w.heap.size ≤ x) ∧ (n = 0 → a' = none)) ∧ Below w.heap.size w w' := by
  obtain ⟨t0, hi, hz0, hz1, hz2⟩ := info_parts infoSpot
  cases a with
  | some ad =>
    go_enter Tryz.func91, Tryz.ntmps91
    go_wp2_with (first
      | (at_builtin; refine wpList_append_own _ rfl _ _ 35 rfl w.heap.size 99 t0 (.agg #[.string .empty, .int .i64 0, .int .i64 0, .int .i64 0, .slice none 0 0]) 5 64 Tryz.underlying35 hi hz0 hz1 hz2 rfl (by decide) _ _ _ rfl (World.ownsRow_nil _ _ _ _) ad n cap (flat n 5 f) rfl (flat_length _ _ _) (flat_news hm) (flat_one h1) ?c3 ?c4 ?c5 ?_))
    case c3 => unfold maxLen; omega
    case c4 => omega
    case c5 => exact Nat.le_refl _
    intro v2 w2 hown2 hgrow2 hnil
    have hb2 := (Below.refl w.heap.size w).grown hgrow2 (Nat.le_refl _) (fun g hg => by simp [Value.ownBlock] at hg)
    try simp only [Nat.zero_add, List.nil_append] at hown2
    obtain ⟨a', c', rfl, ho, hx, hc⟩ := OwnL.of_owns2 hown2
    have HN : Hid (n = 0 → a' = none) := fun h0 => by
      have := hnil.2 (by first | exact h0 | exact ⟨rfl, h0⟩)
      simp only [Value.slice.injEq] at this
      exact this.1
    clear hown2 hgrow2 hnil
    go_wp2
    go_ret
    exact ⟨⟨a', c', rfl, ho, hx, hc, HN.out⟩, hb2⟩
  | none =>
    have hn : n = 0 := by
      rcases Nat.eq_zero_or_pos n with h | h
      · exact h
      · obtain ⟨_, _, h, _⟩ := hm 0 h
        cases h
    subst hn
    have hnone : ∀ ty, (Builtin.append_ #[35, 35] ty #[.slice none 0 0, .slice none 0 cap]).run Tryz.prog w = .ok (.slice none 0 0) w := fun ty => by
      simp [Builtin.append_, run_underlying Tryz.underlying35, sizeOf, typeInfo, hi, Builtin.lenOf, Builtin.firstCells, storeCells]
    go_enter Tryz.func91, Tryz.ntmps91
    go_wp2
    go_ret
    exact ⟨⟨none, 0, rfl, Or.inl rfl, Or.inl ⟨rfl, rfl, rfl⟩, (fun x hx => by obtain ⟨o, h⟩ := hx; cases h), fun _ => rfl⟩, Below.refl _ _⟩

set_option maxRecDepth 100000 in
set_option maxHeartbeats 2000000 in
theorem freshQ_own (a : Option Addr) (n cap : Nat) (f : Nat → Nat → Value) (w : World) (hm : RowAt w a n 7 f) (h1 : ∀ k j, (f k j).oneCell' = true) (hl : n ≤ 1048576) :
    Calls Tryz.prog 92 #[.slice a n cap] w fun e w' => (∃ a' c', e = .returned (.slice a' n c') ∧ OwnL w' 60 7 a' n f ∧ CapOf w' 60 7 a' n c' ∧ (∀ x, InAddr a' x → w.heap.size ≤ x) ∧ (n = 0 → a' = none)) ∧ Below w.heap.size w w' := by
  obtain ⟨t0, hi, hz0, hz1, hz2⟩ := info_parts infoPart
  cases a with
  | some ad =>
    go_enter Tryz.func92, Tryz.ntmps92
    go_wp2_with (first
      | (at_builtin; refine wpList_append_own _ rfl _ _ 36 rfl w.heap.size 60 t0 (.agg #[.int .i64 0, .int .i64 0, .slice none 0 0, .slice none 0 0, .slice none 0 0, .slice none 0 0, .bool false]) 7 120 Tryz.underlying36 hi hz0 hz1 hz2 rfl (by decide) _ _ _ rfl (World.ownsRow_nil _ _ _ _) ad n cap (flat n 7 f) rfl (flat_length _ _ _) (flat_news hm) (flat_one h1) ?c3 ?c4 ?c5 ?_))
    case c3 => unfold maxLen; omega
    case c4 => omega
    case c5 => exact Nat.le_refl _
    intro v2 w2 hown2 hgrow2 hnil
    have hb2 := (Below.refl w.heap.size w).grown hgrow2 (Nat.le_refl _) (fun g hg => by simp [Value.ownBlock] at hg)
    try simp only [Nat.zero_add, List.nil_append] at hown2
    obtain ⟨a', c', rfl, ho, hx, hc⟩ := OwnL.of_owns2 hown2
    have HN : Hid (n = 0 → a' = none) := fun h0 => by
      have := hnil.2 (by first | exact h0 | exact ⟨rfl, h0⟩)
      simp only [Value.slice.injEq] at this
      exact this.1
    clear hown2 hgrow2 hnil
    go_wp2
    go_ret
    exact ⟨⟨a', c', rfl, ho, hx, hc, HN.out⟩, hb2⟩
  | none =>
    have hn : n = 0 := by
      rcases Nat.eq_zero_or_pos n with h | h
      · exact h
      · obtain ⟨_, _, h, _⟩ := hm 0 h
        cases h
    subst hn
    have hnone : ∀ ty, (Builtin.append_ #[36, 36] ty #[.slice none 0 0, .slice none 0 cap]).run Tryz.prog w = .ok (.slice none 0 0) w := fun ty => by
      simp [Builtin.append_, run_underlying Tryz.underlying36, sizeOf, typeInfo, hi, Builtin.lenOf, Builtin.firstCells, storeCells]
    go_enter Tryz.func92, Tryz.ntmps92
    go_wp2
    go_ret
    exact ⟨⟨none, 0, rfl, Or.inl rfl, Or.inl ⟨rfl, rfl, rfl⟩, (fun x hx => by obtain ⟨o, h⟩ := hx; cases h), fun _ => rfl⟩, Below.refl _ _⟩

end Go.Proofs.YtfmhkicncgccjaaGreatDoor

/- An append to a list that owns its memory, its room known: what it leaves. -/
namespace Go.Proofs.YtfmhkicncgccjaaGreatDoor
open Go.RowKit Go.Sort
set_option linter.unusedSimpArgs false
set_option linter.unusedVariables false

/-- t is the type of slices of e, whose values have so many cells. -/
def SliceT (P : Program) (t e : TypeId) (size : Nat) : Prop :=
  ∃ i z, P.underlying t = some (.slice e) ∧ P.info? e = some i ∧ i.zero = some z ∧ i.size = size ∧ z.cells.size = size ∧ 0 < size ∧ i.bytes ≤ 1024
theorem sliceT_of {P : Program} {t e : TypeId} {z : Value} {size bytes : Nat} (ht : P.underlying t = some (.slice e)) (hi : (P.info? e).map (fun i => (i.zero, i.size, i.bytes)) = some (some z, size, bytes)) (hz : z.cells.size = size) (h0 : 0 < size) (hb : bytes ≤ 1024) : SliceT P t e size := by
  obtain ⟨i, hi, h1, h2, h3⟩ := info_parts hi
  exact ⟨i, z, ht, hi, h1, h2, hz, h0, by omega⟩
theorem sliceStr : SliceT Tryz.prog 24 9 1 := sliceT_of Tryz.underlying24 info9 rfl (by decide) (by decide)
theorem sliceUse : SliceT Tryz.prog 40 101 3 := sliceT_of Tryz.underlying40 infoUse rfl (by decide) (by decide)
theorem sliceFoe : SliceT Tryz.prog 34 105 2 := sliceT_of Tryz.underlying34 infoFoe rfl (by decide) (by decide)
theorem sliceSpot : SliceT Tryz.prog 35 99 5 := sliceT_of Tryz.underlying35 infoSpot rfl (by decide) (by decide)
theorem slicePart : SliceT Tryz.prog 36 60 7 := sliceT_of Tryz.underlying36 infoPart rfl (by decide) (by decide)

/-- Two lists, one behind the other. -/
def behindF (n : Nat) (f g : Nat → Nat → Value) (k : Nat) : Nat → Value := if k < n then f k else g (k - n)
theorem behindF_lt {n : Nat} {f g : Nat → Nat → Value} {k j : Nat} (h : k < n) : behindF n f g k j = f k j := by unfold behindF; rw [if_pos h]
theorem behindF_ge {n : Nat} {f g : Nat → Nat → Value} {k j : Nat} : behindF n f g (n + k) j = g k j := by unfold behindF; rw [if_neg (by omega), Nat.add_sub_cancel_left]

/-- What an append leaves. -/
structure Appended (e : TypeId) (size : Nat) (w w' : World) (a0 : Option Addr) (n m : Nat) (f g : Nat → Nat → Value) (a' : Option Addr) (c' : Nat) : Prop where
  own : OwnL w' e size a' (n + m) (behindF n f g)
  cap : CapOf w' e size a' (n + m) c'
  at_ : ∀ y, InAddr a' y → InAddr a0 y ∨ y = w.heap.size
  only : Only (InAddr a0) w w'
  nil : n = 0 → m = 0 → a' = a0

theorem run_append_row {P : Program} (w : World) {t e : TypeId} {size : Nat} (ty : TypeId) (hT : SliceT P t e size) (a0 : Option Addr) (n c0 : Nat) (f : Nat → Nat → Value) (ho : OwnL w e size a0 n f) (hc : CapOf w e size a0 n c0)
    (ax : Option Addr) (m c : Nat) (g : Nat → Nat → Value) (hx : RowAt w ax m size g) (h1 : ∀ k j, (g k j).oneCell' = true) (hn : n + m ≤ 16777216) :
    ∃ a' c' w', (Builtin.append_ #[t, t] ty #[.slice a0 n c0, .slice ax m c]).run P w = .ok (.slice a' (n + m) c') w' ∧ Appended e size w w' a0 n m f g a' c' := by
  obtain ⟨i, z, ht, hi, hz, hs, hzs, h0, hb⟩ := hT
  have hl : (n + m) * i.bytes ≤ 16777216 * 1024 := Nat.mul_le_mul hn hb
  have hB : ∃ base, base ≤ w.heap.size ∧ ∀ y, InAddr a0 y → base ≤ y := ⟨0, Nat.zero_le _, fun _ _ => Nat.zero_le _⟩
  obtain ⟨base, hbase, hlo⟩ := hB
  have own := ho.owns hc hlo
  cases ax with
  | some ad =>
    obtain ⟨v', w', hr, h2, h3, h4, h5⟩ := run_append_own_at (P := P) w base t ty e i z size i.bytes ht hi hz hs rfl hzs h0 (.slice a0 n c0) n (flat n size f) own ad m c (flat m size g) (flat_length _ _ _) (flat_news hx) (flat_one h1) (by unfold maxLen; omega) (by omega) hbase
    rw [flat_append (h := behindF n f g) (fun k hk j hj => behindF_lt hk) (fun k hk j hj => behindF_ge)] at h2
    obtain ⟨a', c', rfl, o', cp', lo'⟩ := OwnL.of_owns2 h2
    refine ⟨a', c', w', hr, o', cp', fun y hy => ?_, ⟨h3.os, h3.tape, h3.output, h3.size, fun k hk hn => h3.block k hk fun e => ?_⟩, fun hn0 hm0 => ?_⟩
    · obtain ⟨o, rfl⟩ := hy
      simp only [Value.ownBlock] at h5
      rcases h5 with h5 | h5
      · refine Or.inl ?_
        rcases hc with ⟨_, rfl, _⟩ | ⟨b, l, rfl, _⟩
        · simp at h5
        · simp at h5; exact ⟨0, by rw [h5]⟩
      · simp at h5
        exact Or.inr h5
    · apply hn
      rcases hc with ⟨_, rfl, _⟩ | ⟨b, l, rfl, _⟩
      · simp [Value.ownBlock] at e
      · simp [Value.ownBlock] at e
        exact ⟨0, by rw [e]⟩
    · subst hn0 hm0
      rcases hc with ⟨_, rfl, rfl⟩ | ⟨b, l, rfl, hr', hl', _⟩
      · have := h4.2 ⟨rfl, rfl⟩
        simp only [Value.slice.injEq] at this
        exact this.1
      · rcases h5 with h5 | h5
        · rcases cp' with ⟨_, rfl, rfl⟩ | ⟨b', l', rfl, _⟩
          · simp [Value.ownBlock] at h5
          · simp [Value.ownBlock] at h5
            rw [h5]
        · exfalso
          have e0 : (Builtin.append_ #[t, t] ty #[.slice (some ⟨b, 0, none⟩) 0 c0, .slice (some ad) 0 c]).run P w = .ok (.slice (some ⟨b, 0, none⟩) 0 c0) w := by
            simp [Builtin.append_, run_underlying ht, sizeOf, typeInfo, hi, Builtin.lenOf, Builtin.firstCells, loadCells, loadCellsFrom, storeCells]
          rw [e0] at hr
          simp only [Result.ok.injEq, Value.slice.injEq] at hr
          rw [← hr.1.1] at h5
          simp [Value.ownBlock] at h5
          have := hr'.lt
          omega
  | none =>
    have hm : m = 0 := by
      rcases Nat.eq_zero_or_pos m with h | h
      · exact h
      · obtain ⟨_, _, h, _⟩ := hx 0 h
        cases h
    subst hm
    refine ⟨a0, c0, w, ?_, ?_, by simpa using hc, fun y hy => Or.inl hy, Only.refl _ _, fun _ _ => rfl⟩
    · rcases hc with ⟨rfl, rfl, rfl⟩ | ⟨b, l, rfl, hr', hl', hnc, _⟩
      · simp [Builtin.append_, run_underlying ht, sizeOf, typeInfo, hi, Builtin.lenOf, Builtin.firstCells, storeCells]
      · simp [Builtin.append_, run_underlying ht, sizeOf, typeInfo, hi, Builtin.lenOf, Builtin.firstCells, storeCells, hnc]
    · have : OwnL w e size a0 n (behindF n f g) := ho.congr (fun k hk j hj => (behindF_lt hk).symm)
      simpa using this

theorem wp_append_row {P : Program} {w : World} {o : Oper} {a : Act} {K : Act → World → Prop} {Q : Exit → Act → World → Prop} (s x : Operand) {t e : TypeId} {size : Nat}
    (ho : o.op = .call { callee := .builtin .append, args := #[s, x], argTypes := #[t, t] }) (hT : SliceT P t e size)
    (a0 : Option Addr) (n c0 : Nat) (f : Nat → Nat → Value) (hs : a.eval s = .slice a0 n c0) (hown : OwnL w e size a0 n f) (hc : CapOf w e size a0 n c0)
    (ax : Option Addr) (m c : Nat) (g : Nat → Nat → Value) (hxe : a.eval x = .slice ax m c) (hx : RowAt w ax m size g) (h1 : ∀ k j, (g k j).oneCell' = true) (hn : n + m ≤ 16777216)
    (h : ∀ a' c' w', Appended e size w w' a0 n m f g a' c' → K (a.put o.dst (.slice a' (n + m) c')) w') : o.wp P a w K Q := by
  obtain ⟨a', c', w', hr, h2⟩ := run_append_row (P := P) w o.type hT a0 n c0 f hown hc ax m c g hx h1 hn
  unfold Oper.wp execOp
  simp only [ho, resolve, invoke, builtin, Sem.run_bind, Sem.run_pure, Result.andThen_ok, List.map_toArray, List.map_cons, List.map_nil, hs, hxe, hr]
  exact h a' c' w' h2
theorem wpList_append_row {P : Program} {w : World} {ops : Array Oper} {rest : List Oper} {o : Oper} {a : Act} {Q : Exit → Act → World → Prop} (hgd : o.guard = none) (s x : Operand) {t e : TypeId} {size : Nat}
    (ho : o.op = .call { callee := .builtin .append, args := #[s, x], argTypes := #[t, t] }) (hT : SliceT P t e size)
    (a0 : Option Addr) (n c0 : Nat) (f : Nat → Nat → Value) (hs : a.eval s = .slice a0 n c0) (hown : OwnL w e size a0 n f) (hc : CapOf w e size a0 n c0)
    (ax : Option Addr) (m c : Nat) (g : Nat → Nat → Value) (hxe : a.eval x = .slice ax m c) (hx : RowAt w ax m size g) (h1 : ∀ k j, (g k j).oneCell' = true) (hn : n + m ≤ 16777216)
    (h : ∀ a' c' w', Appended e size w w' a0 n m f g a' c' → wpList P ops Q rest (a.put o.dst (.slice a' (n + m) c')) w') : wpList P ops Q (o :: rest) a w :=
  wpList_plain hgd fun _ hK => wp_append_row s x ho hT a0 n c0 f hs hown hc ax m c g hxe hx h1 hn fun a' c' w' h2 => hK _ _ (h a' c' w' h2)
theorem step_append_row {P : Program} {w : World} {ops : Array Oper} {o : Oper} {a : Act} {K : Act → World → Prop} {Q : Exit → Act → World → Prop} {E : Prop} (hgd : o.guard = none) (s x : Operand) {t e : TypeId} {size : Nat}
    (ho : o.op = .call { callee := .builtin .append, args := #[s, x], argTypes := #[t, t] }) (hT : SliceT P t e size)
    (a0 : Option Addr) (n c0 : Nat) (f : Nat → Nat → Value) (hs : a.eval s = .slice a0 n c0) (hown : OwnL w e size a0 n f) (hc : CapOf w e size a0 n c0)
    (ax : Option Addr) (m c : Nat) (g : Nat → Nat → Value) (hxe : a.eval x = .slice ax m c) (hx : RowAt w ax m size g) (h1 : ∀ k j, (g k j).oneCell' = true) (hn : n + m ≤ 16777216)
    (h : ∀ a' c' w', Appended e size w w' a0 n m f g a' c' → K (a.put o.dst (.slice a' (n + m) c')) w') :
    if Region.wanted o (yielded ops a.tmps) = true then Oper.wp P o a w K Q else E := by
  have hw : Region.wanted o (yielded ops a.tmps) = true := by simp [Region.wanted, hgd]
  rw [if_pos hw]
  exact wp_append_row s x ho hT a0 n c0 f hs hown hc ax m c g hxe hx h1 hn h

/-- The empty slice that a literal makes, and the nil slice. -/
theorem ownL_zero (w : World) (e : TypeId) (size : Nat) (a : Option Addr) (f : Nat → Nat → Value) : OwnL w e size a 0 f := Or.inl rfl
theorem capOf_nil (w : World) (e : TypeId) (size : Nat) : CapOf w e size none 0 0 := Or.inl ⟨rfl, rfl, rfl⟩
theorem capOf_row {w : World} {e : TypeId} {size b : Nat} (h : Row w b e []) : CapOf w e size (some ⟨b, 0, none⟩) 0 0 := Or.inr ⟨b, [], rfl, h, by simp, Nat.le_refl _, Nat.zero_le _⟩

end Go.Proofs.YtfmhkicncgccjaaGreatDoor

/- What the program's fresh wants own. -/
namespace Go.Proofs.YtfmhkicncgccjaaGreatDoor
open Go.RowKit Go.Sort
set_option linter.unusedSimpArgs false
set_option linter.unusedVariables false

/-- The lists of a part's want, each in memory of its own. -/
structure OwnLists (w : World) (p : Part) (A : Nat → Option Addr) : Prop where
  list : ∀ c, c < 4 → OwnL w (tS c) (sS c) (A c) (pL p c) (pF p c)
  each : ∀ c d, c < 4 → d < 4 → c ≠ d → ∀ y, InSlot (A c) (pL p c) y → ¬ InSlot (A d) (pL p d) y
def InLists (p : Part) (A : Nat → Option Addr) (y : Nat) : Prop := ∃ c, c < 4 ∧ InSlot (A c) (pL p c) y
theorem OwnLists.only {B : Nat → Prop} {w w' : World} {p : Part} {A : Nat → Option Addr} (h : OwnLists w p A) (ho : Only B w w') (hB : ∀ y, InLists p A y → ¬ B y) : OwnLists w' p A :=
  ⟨fun c hc => (h.list c hc).only ho (fun y hy => hB y ⟨c, hc, hy⟩), h.each⟩
theorem OwnLists.later {w w' : World} {p : Part} {A : Nat → Option Addr} (h : OwnLists w p A) (hb : Below w.heap.size w w') : OwnLists w' p A := h.only (Only.of (B := fun _ => False) hb) (fun _ _ => id)
theorem OwnLists.lt {w : World} {p : Part} {A : Nat → Option Addr} (h : OwnLists w p A) {y : Nat} (hy : InLists p A y) : y < w.heap.size := by
  obtain ⟨c, hc, hy⟩ := hy
  exact (h.list c hc).lt hy
theorem OwnLists.in_ {w : World} {p : Part} {A : Nat → Option Addr} (h : OwnLists w p A) : WantIn w p.want (A 0) (A 1) (A 2) (A 3) :=
  ⟨(h.list 0 (by omega)).rowAt, (h.list 1 (by omega)).rowAt, (h.list 2 (by omega)).rowAt, (h.list 3 (by omega)).rowAt⟩
def fourA (a b c d : Option Addr) : Nat → Option Addr
  | 0 => a
  | 1 => b
  | 2 => c
  | _ => d
def fourN (a b c d : Nat) : Nat → Nat
  | 0 => a
  | 1 => b
  | 2 => c
  | _ => d
theorem ownLists_of {w : World} {p : Part} {a2 a3 a4 a5 : Option Addr} {s1 s2 s3 : Nat}
    (h2 : OwnL w 9 1 a2 p.want.stuffs.length (strF p.want.stuffs)) (h3 : OwnL w 101 3 a3 p.want.uses.length (useF p.want.uses))
    (h4 : OwnL w 9 1 a4 p.want.opens.length (strF p.want.opens)) (h5 : OwnL w 9 1 a5 p.want.shuts.length (strF p.want.shuts))
    (o2 : ∀ y, InSlot a2 p.want.stuffs.length y → y < s1) (o3 : ∀ y, InSlot a3 p.want.uses.length y → s1 ≤ y ∧ y < s2) (o4 : ∀ y, InSlot a4 p.want.opens.length y → s2 ≤ y ∧ y < s3) (o5 : ∀ y, InSlot a5 p.want.shuts.length y → s3 ≤ y) (l12 : s1 ≤ s2) (l23 : s2 ≤ s3) :
    OwnLists w p (fourA a2 a3 a4 a5) := by
  refine ⟨fun c hc => ?_, fun c d hc hd hcd y hy hy' => ?_⟩
  · match c, hc with
    | 0, _ => exact h2
    | 1, _ => exact h3
    | 2, _ => exact h4
    | 3, _ => exact h5
  · match c, hc, d, hd with
    | 0, _, 0, _ => exact hcd rfl
    | 0, _, 1, _ => have := o2 y hy; have := o3 y hy'; omega
    | 0, _, 2, _ => have := o2 y hy; have := o4 y hy'; omega
    | 0, _, 3, _ => have := o2 y hy; have := o5 y hy'; omega
    | 1, _, 0, _ => have := o2 y hy'; have := o3 y hy; omega
    | 1, _, 1, _ => exact hcd rfl
    | 1, _, 2, _ => have := o3 y hy; have := o4 y hy'; omega
    | 1, _, 3, _ => have := o3 y hy; have := o5 y hy'; omega
    | 2, _, 0, _ => have := o2 y hy'; have := o4 y hy; omega
    | 2, _, 1, _ => have := o3 y hy'; have := o4 y hy; omega
    | 2, _, 2, _ => exact hcd rfl
    | 2, _, 3, _ => have := o4 y hy; have := o5 y hy'; omega
    | 3, _, 0, _ => have := o2 y hy'; have := o5 y hy; omega
    | 3, _, 1, _ => have := o3 y hy'; have := o5 y hy; omega
    | 3, _, 2, _ => have := o4 y hy'; have := o5 y hy; omega
    | 3, _, 3, _ => exact hcd rfl

set_option maxRecDepth 100000 in
set_option maxHeartbeats 2000000 in
theorem freshWant_own (p : Part) (a2 a3 a4 a5 : Option Addr) (c2 c3 c4 c5 : Nat) (w : World) (hin : WantIn w p.want a2 a3 a4 a5) (hr : WantRoom p.want) :
    Calls Tryz.prog 93 #[wantW p.want a2 a3 a4 a5 c2 c3 c4 c5] w fun e w' => (∃ (A : Nat → Option Addr) (C : Nat → Nat), e = .returned (wantW p.want (A 0) (A 1) (A 2) (A 3) (C 0) (C 1) (C 2) (C 3)) ∧ OwnLists w' p A ∧ ∀ y, InLists p A y → w.heap.size ≤ y) ∧ Below w.heap.size w w' := by
  have r2 := hr.stuffs
  have r3 := hr.uses
  have r4 := hr.opens
  have r5 := hr.shuts
  unfold wantW
  obtain ⟨W0, hW0⟩ : ∃ W, W = (w.alloc (.cells #[.int .i64 p.want.number, .int .i64 p.want.kind, .slice a2 p.want.stuffs.length c2, .slice a3 p.want.uses.length c3, .slice a4 p.want.opens.length c4, .slice a5 p.want.shuts.length c5] 42)).alloc (.cells #[.int .i64 0, .int .i64 0, .slice none 0 0, .slice none 0 0, .slice none 0 0, .slice none 0 0] 42) := ⟨_, rfl⟩
  have b0 : Below w.heap.size w W0 := by rw [hW0]; exact ((Below.refl _ _).alloc (Nat.le_refl _) _).alloc (by simp) _
  have i0 : Row W0 w.heap.size 42 [.int .i64 p.want.number, .int .i64 p.want.kind, .slice a2 p.want.stuffs.length c2, .slice a3 p.want.uses.length c3, .slice a4 p.want.opens.length c4, .slice a5 p.want.shuts.length c5] := by rw [hW0]; exact (Row.new _ _ _).alloc _
  have z0 : Row W0 (w.heap.size + 1) 42 [.int .i64 0, .int .i64 0, .slice none 0 0, .slice none 0 0, .slice none 0 0, .slice none 0 0] := by
    rw [hW0]
    have := Row.new (w.alloc (.cells #[.int .i64 p.want.number, .int .i64 p.want.kind, .slice a2 p.want.stuffs.length c2, .slice a3 p.want.uses.length c3, .slice a4 p.want.opens.length c4, .slice a5 p.want.shuts.length c5] 42)) 42 [.int .i64 0, .int .i64 0, .slice none 0 0, .slice none 0 0, .slice none 0 0, .slice none 0 0]
    simpa using this
  have sz0 : W0.heap.size = w.heap.size + 2 := by rw [hW0]; simp
  have hne : w.heap.size + 1 ≠ w.heap.size := by omega
  go_enter Tryz.func93, Tryz.ntmps93
  go_wp2_with fail
  rw [← hW0]
  clear hW0
  refine (freshS_own a2 p.want.stuffs.length c2 (strF p.want.stuffs) W0 (hin.later b0).stuffs (oneStr _) r2).mono ?_
  rintro e w1 ⟨⟨d2, k2, rfl, s2, -, lo2, -⟩, hb⟩
  have b1 := b0.trans (hb.mono b0.size)
  have i1 := i0.later hb
  have z1 := z0.later hb
  have sz1 : w.heap.size + 2 ≤ w1.heap.size := by have := hb.size; omega
  have O2 : Hid (∀ y, InSlot d2 p.want.stuffs.length y → w.heap.size + 2 ≤ y ∧ y < w1.heap.size) := fun y hy => ⟨by have := lo2 y hy.2; omega, s2.lt hy⟩
  clear b0 i0 z0 hb sz0 lo2
  have q3 := i1.cell 3 rfl
  have f2 := i1.frozen 2
  have g2 := i1.cell 2 rfl
  go_wp2_with fail
  obtain ⟨W1, hW1⟩ : ∃ W, W = w1.setCell ⟨w.heap.size, 2, none⟩ (.slice d2 p.want.stuffs.length k2) := ⟨_, rfl⟩
  have b1 : Below w.heap.size w W1 := by rw [hW1]; exact b1.setCell (by simp) _
  have i1 := i1.set 2 (.slice d2 p.want.stuffs.length k2)
  have z1 := z1.other (a := ⟨w.heap.size, 2, none⟩) hne (.slice d2 p.want.stuffs.length k2)
  have s2 := s2.only (Only.cell _ ⟨w.heap.size, 2, none⟩ (.slice d2 p.want.stuffs.length k2)) (fun y hy e => by have := O2.out y hy; simp only at e; omega)
  have sW1 : W1.heap.size = w1.heap.size := by rw [hW1, Go.Deep.nblk_setCell]
  rw [← hW1] at i1 z1 s2 ⊢
  clear hW1 q3 f2 g2
  refine (freshU_own a3 p.want.uses.length c3 (useF p.want.uses) W1 (hin.later b1).uses (oneUse _) r3).mono ?_
  rintro e w2 ⟨⟨d3, k3, rfl, s3, -, lo3, -⟩, hb⟩
  have b2 := b1.trans (hb.mono b1.size)
  have i2 := i1.later hb
  have z2 := z1.later hb
  have s2 := s2.later hb
  have sz2 : w1.heap.size ≤ w2.heap.size := by have := hb.size; omega
  have O3 : Hid (∀ y, InSlot d3 p.want.uses.length y → w1.heap.size ≤ y ∧ y < w2.heap.size) := fun y hy => ⟨by have := lo3 y hy.2; omega, s3.lt hy⟩
  clear b1 i1 z1 hb sW1 lo3
  have q4 := i2.cell 4 rfl
  have f3 := i2.frozen 3
  have g3 := i2.cell 3 rfl
  go_wp2_with fail
  obtain ⟨W2, hW2⟩ : ∃ W, W = w2.setCell ⟨w.heap.size, 3, none⟩ (.slice d3 p.want.uses.length k3) := ⟨_, rfl⟩
  have b2 : Below w.heap.size w W2 := by rw [hW2]; exact b2.setCell (by simp) _
  have i2 := i2.set 3 (.slice d3 p.want.uses.length k3)
  have z2 := z2.other (a := ⟨w.heap.size, 3, none⟩) hne (.slice d3 p.want.uses.length k3)
  have s2 := s2.only (Only.cell _ ⟨w.heap.size, 3, none⟩ (.slice d3 p.want.uses.length k3)) (fun y hy e => by have := O2.out y hy; simp only at e; omega)
  have s3 := s3.only (Only.cell _ ⟨w.heap.size, 3, none⟩ (.slice d3 p.want.uses.length k3)) (fun y hy e => by have := O3.out y hy; simp only at e; omega)
  have sW2 : W2.heap.size = w2.heap.size := by rw [hW2, Go.Deep.nblk_setCell]
  rw [← hW2] at i2 z2 s2 s3 ⊢
  clear hW2 q4 f3 g3
  refine (freshS_own a4 p.want.opens.length c4 (strF p.want.opens) W2 (hin.later b2).opens (oneStr _) r4).mono ?_
  rintro e w3 ⟨⟨d4, k4, rfl, s4, -, lo4, -⟩, hb⟩
  have b3 := b2.trans (hb.mono b2.size)
  have i3 := i2.later hb
  have z3 := z2.later hb
  have s2 := s2.later hb
  have s3 := s3.later hb
  have sz3 : w2.heap.size ≤ w3.heap.size := by have := hb.size; omega
  have O4 : Hid (∀ y, InSlot d4 p.want.opens.length y → w2.heap.size ≤ y ∧ y < w3.heap.size) := fun y hy => ⟨by have := lo4 y hy.2; omega, s4.lt hy⟩
  clear b2 i2 z2 hb sW2 lo4
  have q5 := i3.cell 5 rfl
  have f4 := i3.frozen 4
  have g4 := i3.cell 4 rfl
  go_wp2_with fail
  obtain ⟨W3, hW3⟩ : ∃ W, W = w3.setCell ⟨w.heap.size, 4, none⟩ (.slice d4 p.want.opens.length k4) := ⟨_, rfl⟩
  have b3 : Below w.heap.size w W3 := by rw [hW3]; exact b3.setCell (by simp) _
  have i3 := i3.set 4 (.slice d4 p.want.opens.length k4)
  have z3 := z3.other (a := ⟨w.heap.size, 4, none⟩) hne (.slice d4 p.want.opens.length k4)
  have s2 := s2.only (Only.cell _ ⟨w.heap.size, 4, none⟩ (.slice d4 p.want.opens.length k4)) (fun y hy e => by have := O2.out y hy; simp only at e; omega)
  have s3 := s3.only (Only.cell _ ⟨w.heap.size, 4, none⟩ (.slice d4 p.want.opens.length k4)) (fun y hy e => by have := O3.out y hy; simp only at e; omega)
  have s4 := s4.only (Only.cell _ ⟨w.heap.size, 4, none⟩ (.slice d4 p.want.opens.length k4)) (fun y hy e => by have := O4.out y hy; simp only at e; omega)
  have sW3 : W3.heap.size = w3.heap.size := by rw [hW3, Go.Deep.nblk_setCell]
  rw [← hW3] at i3 z3 s2 s3 s4 ⊢
  clear hW3 q5 f4 g4
  refine (freshS_own a5 p.want.shuts.length c5 (strF p.want.shuts) W3 (hin.later b3).shuts (oneStr _) r5).mono ?_
  rintro e w4 ⟨⟨d5, k5, rfl, s5, -, lo5, -⟩, hb⟩
  have b4 := b3.trans (hb.mono b3.size)
  have i4 := i3.later hb
  have z4 := z3.later hb
  have s2 := s2.later hb
  have s3 := s3.later hb
  have s4 := s4.later hb
  have O5 : Hid (∀ y, InSlot d5 p.want.shuts.length y → w3.heap.size ≤ y) := fun y hy => by have := lo5 y hy.2; omega
  have own := ownLists_of s2 s3 s4 s5 (s1 := w1.heap.size) (s2 := w2.heap.size) (s3 := w3.heap.size) (fun y hy => (O2.out y hy).2) (fun y hy => O3.out y hy) (fun y hy => O4.out y hy) (fun y hy => O5.out y hy) sz2 sz3
  have LO : Hid (∀ y, InLists p (fourA d2 d3 d4 d5) y → w.heap.size + 2 ≤ y) := fun y ⟨c, hc, hy⟩ => by
    match c, hc with
    | 0, _ => have := O2.out y hy; omega
    | 1, _ => have := O3.out y hy; omega
    | 2, _ => have := O4.out y hy; omega
    | 3, _ => have := O5.out y hy; omega
  have OWN : Hid _ := own
  clear b3 i3 z3 hb sW3 lo5 O2 O3 O4 O5 s2 s3 s4 s5 own
  have f5 := i4.frozen 5
  have g0 := i4.cell 0 rfl
  have g1 := i4.cell 1 rfl
  have g2 := i4.cell 2 rfl
  have g3 := i4.cell 3 rfl
  have g4 := i4.cell 4 rfl
  have g5 := i4.cell 5 rfl
  have r0 := z4.cell 0 rfl
  have r1 := z4.cell 1 rfl
  have r2 := z4.cell 2 rfl
  have r3 := z4.cell 3 rfl
  have r4 := z4.cell 4 rfl
  have r5 := z4.cell 5 rfl
  have k0' := z4.frozen 0
  have k1' := z4.frozen 1
  have k2' := z4.frozen 2
  have k3' := z4.frozen 3
  have k4' := z4.frozen 4
  have k5' := z4.frozen 5
  go_wp2
  refine bodyPost_ret (v := .agg #[.int .i64 p.want.number, .int .i64 p.want.kind, .slice d2 p.want.stuffs.length k2, .slice d3 p.want.uses.length k3, .slice d4 p.want.opens.length k4, .slice d5 p.want.shuts.length k5])
    (by simp [results, Tryz.results93, go_sem, r0, r1, r2, r3, r4, r5]) rfl ⟨⟨fourA d2 d3 d4 d5, fourN k2 k3 k4 k5, rfl, ?_, fun y hy => by have := LO.out y hy; omega⟩, ?_⟩
  · have g1 : ∀ y, InLists p (fourA d2 d3 d4 d5) y → ¬ y = w.heap.size + 1 := fun y hy => by have := LO.out y hy; omega
    have g2 : ∀ y, InLists p (fourA d2 d3 d4 d5) y → ¬ y = w.heap.size := fun y hy => by have := LO.out y hy; omega
    exact ((((((OWN.out.only (Only.cell _ ⟨w.heap.size, 5, none⟩ _) g2).only (Only.cell _ ⟨w.heap.size + 1, 0, none⟩ _) g1).only (Only.cell _ ⟨w.heap.size + 1, 1, none⟩ _) g1).only (Only.cell _ ⟨w.heap.size + 1, 2, none⟩ _) g1).only (Only.cell _ ⟨w.heap.size + 1, 3, none⟩ _) g1).only (Only.cell _ ⟨w.heap.size + 1, 4, none⟩ _) g1).only (Only.cell _ ⟨w.heap.size + 1, 5, none⟩ _) g1
  · exact ((((((b4.setCell (by simp) _).setCell (by simp) _).setCell (by simp) _).setCell (by simp) _).setCell (by simp) _).setCell (by simp) _).setCell (by simp) _

end Go.Proofs.YtfmhkicncgccjaaGreatDoor

/- Lists that grow by one; what the specification's copies of lists and wants own. -/
namespace Go.Proofs.YtfmhkicncgccjaaGreatDoor
open Go.RowKit Go.Sort
set_option linter.unusedSimpArgs false
set_option linter.unusedVariables false

theorem wpList_append_new {P : Program} {w : World} {ops : Array Oper} {rest : List Oper} {o : Oper} {a : Act} {Q : Exit → Act → World → Prop} (hgd : o.guard = none) (s x : Operand) {t e : TypeId} {size : Nat}
    (ho : o.op = .call { callee := .builtin .append, args := #[s, x], argTypes := #[t, t] }) (hT : SliceT P t e size)
    (a0 : Option Addr) (c0 : Nat) (hs : a.eval s = .slice a0 0 c0) (hc : CapOf w e size a0 0 c0)
    (ax : Option Addr) (m c : Nat) (g : Nat → Nat → Value) (hxe : a.eval x = .slice ax m c) (hx : RowAt w ax m size g) (h1 : ∀ k j, (g k j).oneCell' = true) (hn : m ≤ 16777216)
    (h : ∀ a' c' w', OwnL w' e size a' m g → CapOf w' e size a' m c' → (∀ y, InAddr a' y → InAddr a0 y ∨ y = w.heap.size) → Only (InAddr a0) w w' → wpList P ops Q rest (a.put o.dst (.slice a' m c')) w') : wpList P ops Q (o :: rest) a w := by
  refine wpList_append_row hgd s x ho hT a0 0 c0 g hs (ownL_zero _ _ _ _ _) hc ax m c g hxe hx h1 (by omega) ?_
  intro a' c' w' ap
  have h2 := ap.own
  have h3 := ap.cap
  rw [Nat.zero_add] at h2 h3 ⊢
  exact h a' c' w' (h2.congr (fun k hk j hj => by have := behindF_ge (n := 0) (f := g) (g := g) (k := k) (j := j); rw [Nat.zero_add] at this; exact this)) h3 ap.at_ ap.only
theorem step_append_new {P : Program} {w : World} {ops : Array Oper} {o : Oper} {a : Act} {K : Act → World → Prop} {Q : Exit → Act → World → Prop} {E : Prop} (hgd : o.guard = none) (s x : Operand) {t e : TypeId} {size : Nat}
    (ho : o.op = .call { callee := .builtin .append, args := #[s, x], argTypes := #[t, t] }) (hT : SliceT P t e size)
    (a0 : Option Addr) (c0 : Nat) (hs : a.eval s = .slice a0 0 c0) (hc : CapOf w e size a0 0 c0)
    (ax : Option Addr) (m c : Nat) (g : Nat → Nat → Value) (hxe : a.eval x = .slice ax m c) (hx : RowAt w ax m size g) (h1 : ∀ k j, (g k j).oneCell' = true) (hn : m ≤ 16777216)
    (h : ∀ a' c' w', OwnL w' e size a' m g → CapOf w' e size a' m c' → (∀ y, InAddr a' y → InAddr a0 y ∨ y = w.heap.size) → Only (InAddr a0) w w' → K (a.put o.dst (.slice a' m c')) w') :
    if Region.wanted o (yielded ops a.tmps) = true then Oper.wp P o a w K Q else E := by
  refine step_append_row hgd s x ho hT a0 0 c0 g hs (ownL_zero _ _ _ _ _) hc ax m c g hxe hx h1 (by omega) ?_
  intro a' c' w' ap
  have h2 := ap.own
  have h3 := ap.cap
  rw [Nat.zero_add] at h2 h3 ⊢
  exact h a' c' w' (h2.congr (fun k hk j hj => by have := behindF_ge (n := 0) (f := g) (g := g) (k := k) (j := j); rw [Nat.zero_add] at this; exact this)) h3 ap.at_ ap.only

theorem gp_snoc_lt {ps : List Spot} {s : Spot} {k : Nat} (h : k < ps.length) : gp (ps ++ [s]) k = gp ps k := by
  unfold gp; rw [List.getD_eq_getElem?_getD, List.getElem?_append_left h, ← List.getD_eq_getElem?_getD]
theorem gp_snoc_eq {ps : List Spot} {s : Spot} : gp (ps ++ [s]) ps.length = s := by
  unfold gp; rw [List.getD_eq_getElem?_getD, List.getElem?_append_right (Nat.le_refl _)]; simp
theorem gq_snoc_lt {ps : List Part} {s : Part} {k : Nat} (h : k < ps.length) : gq (ps ++ [s]) k = gq ps k := by
  unfold gq; rw [List.getD_eq_getElem?_getD, List.getElem?_append_left h, ← List.getD_eq_getElem?_getD]
theorem gq_snoc_eq {ps : List Part} {s : Part} : gq (ps ++ [s]) ps.length = s := by
  unfold gq; rw [List.getD_eq_getElem?_getD, List.getElem?_append_right (Nat.le_refl _)]; simp

/-- One spot more, behind the others. -/
theorem OwnSpots.snoc {w w' : World} {a : Option Addr} {ps : List Spot} {A : Nat → Option Addr} {C : Nat → Nat} {s : Spot} {m : Option Addr} {c : Nat} {a' : Option Addr} {c' : Nat} (h : OwnSpots w a ps A C)
    (ap : Appended 99 5 w w' a ps.length 1 (fun k => spotCell (gp ps k) (A k) (C k)) (fun _ => spotCell s m c) a' c')
    (ho : OwnL w 9 1 m s.may.length (strF s.may)) (hc : s.may.length ≤ c) (d1 : ∀ y, InSlot m s.may.length y → ¬ InAddr a y) (d2 : ∀ k, k < ps.length → ∀ y, InSlot m s.may.length y → ¬ InSlot (A k) (gp ps k).may.length y) :
    OwnSpots w' a' (ps ++ [s]) (fun k => if k = ps.length then m else A k) (fun k => if k = ps.length then c else C k) := by
  have hl : (ps ++ [s]).length = ps.length + 1 := by simp
  have far : ∀ k, k < ps.length → ∀ y, InSlot (A k) (gp ps k).may.length y → ¬ InAddr a y := fun k hk y hy hy' => h.apart k hk y hy ⟨by omega, hy'⟩
  have lt : ∀ k, k < ps.length → ∀ y, InSlot (A k) (gp ps k).may.length y → y < w.heap.size := fun k hk y hy => (h.may k hk).lt hy
  refine ⟨?_, fun k hk => ?_, fun k hk => ?_, fun k hk y hy hy' => ?_, fun i j hi hj hij y hy hy' => ?_⟩
  · rw [hl]
    refine ap.own.congr fun k hk j hj => ?_
    by_cases e : k < ps.length
    · rw [behindF_lt e, gp_snoc_lt e]
      simp only [if_neg (show ¬ k = ps.length by omega)]
    · have e2 : k = ps.length := by omega
      subst e2
      have := behindF_ge (n := ps.length) (f := fun k => spotCell (gp ps k) (A k) (C k)) (g := fun _ => spotCell s m c) (k := 0) (j := j)
      rw [Nat.add_zero] at this
      rw [this, gp_snoc_eq]
      simp only [if_true]
  · rw [hl] at hk
    by_cases e : k = ps.length
    · subst e
      rw [gp_snoc_eq]
      simp only [if_true]
      exact ho.only ap.only d1
    · rw [gp_snoc_lt (by omega)]
      simp only [if_neg e]
      exact (h.may k (by omega)).only ap.only (far k (by omega))
  · rw [hl] at hk
    by_cases e : k = ps.length
    · subst e
      rw [gp_snoc_eq]
      simp only [if_true]
      exact hc
    · rw [gp_snoc_lt (by omega)]
      simp only [if_neg e]
      exact h.cap k (by omega)
  · rw [hl] at hk
    by_cases e : k = ps.length
    · subst e
      rw [gp_snoc_eq] at hy
      simp only [if_true] at hy
      rcases ap.at_ y hy'.2 with h1 | h1
      · exact d1 y hy h1
      · have := ho.lt hy; omega
    · rw [gp_snoc_lt (by omega)] at hy
      simp only [if_neg e] at hy
      rcases ap.at_ y hy'.2 with h1 | h1
      · exact far k (by omega) y hy h1
      · have := lt k (by omega) y hy; omega
  · rw [hl] at hi hj
    by_cases e : i = ps.length
    · subst e
      have e2 : ¬ j = ps.length := fun h => hij h.symm
      rw [gp_snoc_eq] at hy
      rw [gp_snoc_lt (by omega)] at hy'
      simp only [if_true] at hy
      simp only [if_neg e2] at hy'
      exact d2 j (by omega) y hy hy'
    · rw [gp_snoc_lt (by omega)] at hy
      simp only [if_neg e] at hy
      by_cases e2 : j = ps.length
      · subst e2
        rw [gp_snoc_eq] at hy'
        simp only [if_true] at hy'
        exact d2 i (by omega) y hy' hy
      · rw [gp_snoc_lt (by omega)] at hy'
        simp only [if_neg e2] at hy'
        exact h.each i j (by omega) (by omega) hij y hy hy'

/-- One part more, behind the others. -/
theorem OwnParts.snoc {w w' : World} {a : Option Addr} {ps : List Part} {A : Nat → Nat → Option Addr} {C : Nat → Nat → Nat} {p : Part} {M : Nat → Option Addr} {D : Nat → Nat} {a' : Option Addr} {c' : Nat} (h : OwnParts w a ps A C)
    (ap : Appended 60 7 w w' a ps.length 1 (fun k => partCell (gq ps k) (fun f => A k (f - 2)) (fun f => C k (f - 2))) (fun _ => partCell p (fun f => M (f - 2)) (fun f => D (f - 2))) a' c')
    (ho : OwnLists w p M) (d1 : ∀ y, InLists p M y → ¬ InAddr a y) (d2 : ∀ k, k < ps.length → ∀ y, InLists p M y → ¬ InLists (gq ps k) (A k) y) :
    OwnParts w' a' (ps ++ [p]) (fun k => if k = ps.length then M else A k) (fun k => if k = ps.length then D else C k) := by
  have hl : (ps ++ [p]).length = ps.length + 1 := by simp
  have far : ∀ k, k < ps.length → ∀ c, c < 4 → ∀ y, InSlot (A k c) (pL (gq ps k) c) y → ¬ InAddr a y := fun k hk c hc y hy hy' => h.apart k hk c hc y hy ⟨by omega, hy'⟩
  have lt : ∀ k, k < ps.length → ∀ c, c < 4 → ∀ y, InSlot (A k c) (pL (gq ps k) c) y → y < w.heap.size := fun k hk c hc y hy => (h.list k hk c hc).lt hy
  refine ⟨?_, fun k hk c hc => ?_, fun k hk c hc y hy hy' => ?_, fun i c j d hi hc hj hd hij y hy hy' => ?_⟩
  · rw [hl]
    refine ap.own.congr fun k hk j hj => ?_
    by_cases e : k < ps.length
    · rw [behindF_lt e, gq_snoc_lt e]
      simp only [if_neg (show ¬ k = ps.length by omega)]
    · have e2 : k = ps.length := by omega
      subst e2
      have := behindF_ge (n := ps.length) (f := fun k => partCell (gq ps k) (fun f => A k (f - 2)) (fun f => C k (f - 2))) (g := fun _ => partCell p (fun f => M (f - 2)) (fun f => D (f - 2))) (k := 0) (j := j)
      rw [Nat.add_zero] at this
      rw [this, gq_snoc_eq]
      simp only [if_true]
  · rw [hl] at hk
    by_cases e : k = ps.length
    · subst e
      rw [gq_snoc_eq]
      simp only [if_true]
      exact (ho.list c hc).only ap.only (fun y hy => d1 y ⟨c, hc, hy⟩)
    · rw [gq_snoc_lt (by omega)]
      simp only [if_neg e]
      exact (h.list k (by omega) c hc).only ap.only (far k (by omega) c hc)
  · rw [hl] at hk
    by_cases e : k = ps.length
    · subst e
      rw [gq_snoc_eq] at hy
      simp only [if_true] at hy
      rcases ap.at_ y hy'.2 with h1 | h1
      · exact d1 y ⟨c, hc, hy⟩ h1
      · have := (ho.list c hc).lt hy; omega
    · rw [gq_snoc_lt (by omega)] at hy
      simp only [if_neg e] at hy
      rcases ap.at_ y hy'.2 with h1 | h1
      · exact far k (by omega) c hc y hy h1
      · have := lt k (by omega) c hc y hy; omega
  · rw [hl] at hi hj
    by_cases e : i = ps.length
    · subst e
      rw [gq_snoc_eq] at hy
      simp only [if_true] at hy
      by_cases e2 : j = ps.length
      · subst e2
        rw [gq_snoc_eq] at hy'
        simp only [if_true] at hy'
        exact ho.each c d hc hd (by omega) y hy hy'
      · rw [gq_snoc_lt (by omega)] at hy'
        simp only [if_neg e2] at hy'
        exact d2 j (by omega) y ⟨c, hc, hy⟩ ⟨d, hd, hy'⟩
    · rw [gq_snoc_lt (by omega)] at hy
      simp only [if_neg e] at hy
      by_cases e2 : j = ps.length
      · subst e2
        rw [gq_snoc_eq] at hy'
        simp only [if_true] at hy'
        exact d2 i (by omega) y ⟨d, hd, hy'⟩ ⟨c, hc, hy⟩
      · rw [gq_snoc_lt (by omega)] at hy'
        simp only [if_neg e2] at hy'
        exact h.each i c j d (by omega) hc (by omega) hd hij y hy hy'

set_option maxRecDepth 100000 in
set_option maxHeartbeats 2000000 in
theorem l1Names_own (a : Option Addr) (n cap : Nat) (f : Nat → Nat → Value) (w : World) (hm : RowAt w a n 1 f) (h1 : ∀ k j, (f k j).oneCell' = true) (hl : n ≤ 1048576) :
    Calls Tryz.prog 86 #[.slice a n cap] w fun e w' => (∃ a' c', e = .returned (.slice a' n c') ∧ OwnL w' 9 1 a' n f ∧ CapOf w' 9 1 a' n c' ∧ ∀ y, InAddr a' y → w.heap.size ≤ y) ∧ Below w.heap.size w w' := by
  have b0 : Below w.heap.size w (w.alloc (.cells #[] 9)) := (Below.refl _ _).alloc (Nat.le_refl _) _
  have r0 : Row (w.alloc (.cells #[] 9)) w.heap.size 9 [] := Row.new w _ []
  go_enter Tryz.func86, Tryz.ntmps86
  go_wp2_with (at_builtin; refine wpList_append_new (by rfl) _ _ (by rfl) sliceStr (some ⟨w.heap.size, 0, none⟩) 0 (by rfl) (capOf_row r0) a n cap f (by rfl) (hm.later b0) h1 (by omega) ?_)
  intro a' c' w' ho hc hat hon
  have hb := b0.trans (hon.below (n := w.heap.size) (fun y hy => by obtain ⟨o, h⟩ := hy; cases h; exact Nat.le_refl _) b0.size)
  have hy : Hid (∀ y, InAddr a' y → w.heap.size ≤ y) := fun y hy => by
    rcases hat y hy with ⟨o, h⟩ | h
    · cases h; exact Nat.le_refl _
    · have : (w.alloc (.cells #[] 9)).heap.size = w.heap.size + 1 := by simp
      omega
  clear hat hon r0 b0
  go_wp2
  go_ret
  exact ⟨⟨a', c', rfl, ho, hc, hy.out⟩, hb⟩

set_option maxRecDepth 100000 in
set_option maxHeartbeats 2000000 in
theorem l1Want_own (p : Part) (a2 a3 a4 a5 : Option Addr) (c2 c3 c4 c5 : Nat) (w : World) (hin : WantIn w p.want a2 a3 a4 a5) (hr : WantRoom p.want) :
    Calls Tryz.prog 87 #[wantW p.want a2 a3 a4 a5 c2 c3 c4 c5] w fun e w' => (∃ (A : Nat → Option Addr) (C : Nat → Nat), e = .returned (wantW p.want (A 0) (A 1) (A 2) (A 3) (C 0) (C 1) (C 2) (C 3)) ∧ OwnLists w' p A ∧ ∀ y, InLists p A y → w.heap.size ≤ y) ∧ Below w.heap.size w w' := by
  have r2 := hr.stuffs
  have r3 := hr.uses
  have r4 := hr.opens
  have r5 := hr.shuts
  unfold wantW
  obtain ⟨W0, hW0⟩ : ∃ W, W = ((w.alloc (.cells #[.int .i64 p.want.number, .int .i64 p.want.kind, .slice a2 p.want.stuffs.length c2, .slice a3 p.want.uses.length c3, .slice a4 p.want.opens.length c4, .slice a5 p.want.shuts.length c5] 42)).alloc (.cells #[.int .i64 0, .int .i64 0, .slice none 0 0, .slice none 0 0, .slice none 0 0, .slice none 0 0] 42)).alloc (.cells #[] 101) := ⟨_, rfl⟩
  have b0 : Below w.heap.size w W0 := by rw [hW0]; exact (((Below.refl _ _).alloc (Nat.le_refl _) _).alloc (by simp) _).alloc (by simp; omega) _
  have i0 : Row W0 w.heap.size 42 [.int .i64 p.want.number, .int .i64 p.want.kind, .slice a2 p.want.stuffs.length c2, .slice a3 p.want.uses.length c3, .slice a4 p.want.opens.length c4, .slice a5 p.want.shuts.length c5] := by rw [hW0]; exact ((Row.new _ _ _).alloc _).alloc _
  have z0 : Row W0 (w.heap.size + 1) 42 [.int .i64 0, .int .i64 0, .slice none 0 0, .slice none 0 0, .slice none 0 0, .slice none 0 0] := by
    rw [hW0]
    have := (Row.new (w.alloc (.cells #[.int .i64 p.want.number, .int .i64 p.want.kind, .slice a2 p.want.stuffs.length c2, .slice a3 p.want.uses.length c3, .slice a4 p.want.opens.length c4, .slice a5 p.want.shuts.length c5] 42)) 42 [.int .i64 0, .int .i64 0, .slice none 0 0, .slice none 0 0, .slice none 0 0, .slice none 0 0]).alloc (.cells #[] 101)
    simpa using this
  have e0 : Row W0 (w.heap.size + 1 + 1) 101 [] := by
    rw [hW0]
    have := Row.new ((w.alloc (.cells #[.int .i64 p.want.number, .int .i64 p.want.kind, .slice a2 p.want.stuffs.length c2, .slice a3 p.want.uses.length c3, .slice a4 p.want.opens.length c4, .slice a5 p.want.shuts.length c5] 42)).alloc (.cells #[.int .i64 0, .int .i64 0, .slice none 0 0, .slice none 0 0, .slice none 0 0, .slice none 0 0] 42)) 101 []
    simpa using this
  have sz0 : W0.heap.size = w.heap.size + 3 := by rw [hW0]; simp
  have hne : w.heap.size + 1 ≠ w.heap.size := by omega
  have hu0 := (hin.later b0).uses
  rw [hW0] at hu0
  have e0' := e0
  rw [hW0] at e0'
  go_enter Tryz.func87, Tryz.ntmps87
  go_wp2_with (at_builtin; refine wpList_append_new (by rfl) _ _ (by rfl) sliceUse (some ⟨w.heap.size + 1 + 1, 0, none⟩) 0 (by rfl) (capOf_row e0') a3 p.want.uses.length c3 (useF p.want.uses) (by rfl) hu0 (oneUse _) (by omega) ?_)
  rw [← hW0]
  clear hW0 hu0 e0'
  intro d3 k3 w1 s3 cap3 at3 on3
  clear cap3
  have n0 : ¬ InAddr (some ⟨w.heap.size + 1 + 1, 0, none⟩) w.heap.size := fun ⟨o, h⟩ => by simp at h
  have n1 : ¬ InAddr (some ⟨w.heap.size + 1 + 1, 0, none⟩) (w.heap.size + 1) := fun ⟨o, h⟩ => by simp at h
  have b1 := b0.trans (on3.below (n := w.heap.size) (fun y ⟨o, h⟩ => by simp at h; omega) b0.size)
  have i1 := i0.only on3 n0
  have z1 := z0.only on3 n1
  have sz1 : w.heap.size + 3 ≤ w1.heap.size := by have := on3.size; omega
  have O3 : Hid (∀ y, InSlot d3 p.want.uses.length y → w.heap.size + 2 ≤ y ∧ y < w1.heap.size) := fun y hy => ⟨by
    rcases at3 y hy.2 with ⟨o, h⟩ | h
    · simp at h; omega
    · omega, s3.lt hy⟩
  clear b0 i0 z0 e0 sz0 at3 on3 n0 n1
  have q2 := i1.cell 2 rfl
  have f3 := i1.frozen 3
  have g3 := i1.cell 3 rfl
  go_wp2_with fail
  obtain ⟨W1, hW1⟩ : ∃ W, W = w1.setCell ⟨w.heap.size, 3, none⟩ (.slice d3 p.want.uses.length k3) := ⟨_, rfl⟩
  have b1 : Below w.heap.size w W1 := by rw [hW1]; exact b1.setCell (by simp) _
  have i1 := i1.set 3 (.slice d3 p.want.uses.length k3)
  have z1 := z1.other (a := ⟨w.heap.size, 3, none⟩) hne (.slice d3 p.want.uses.length k3)
  have s3 := s3.only (Only.cell _ ⟨w.heap.size, 3, none⟩ (.slice d3 p.want.uses.length k3)) (fun y hy e => by have := O3.out y hy; simp only at e; omega)
  have sW1 : W1.heap.size = w1.heap.size := by rw [hW1, Go.Deep.nblk_setCell]
  rw [← hW1] at i1 z1 s3 ⊢
  clear hW1 q2 f3 g3
  refine (l1Names_own a2 p.want.stuffs.length c2 (strF p.want.stuffs) W1 (hin.later b1).stuffs (oneStr _) r2).mono ?_
  rintro e w2 ⟨⟨d2, k2, rfl, s2, -, lo2⟩, hb⟩
  have b2 := b1.trans (hb.mono b1.size)
  have i2 := i1.later hb
  have z2 := z1.later hb
  have s3 := s3.later hb
  have sz2 : w1.heap.size ≤ w2.heap.size := by have := hb.size; omega
  have O2 : Hid (∀ y, InSlot d2 p.want.stuffs.length y → w1.heap.size ≤ y ∧ y < w2.heap.size) := fun y hy => ⟨by have := lo2 y hy.2; omega, s2.lt hy⟩
  clear b1 i1 z1 hb sW1 lo2
  have q4 := i2.cell 4 rfl
  have f2 := i2.frozen 2
  have g2 := i2.cell 2 rfl
  go_wp2_with fail
  obtain ⟨W2, hW2⟩ : ∃ W, W = w2.setCell ⟨w.heap.size, 2, none⟩ (.slice d2 p.want.stuffs.length k2) := ⟨_, rfl⟩
  have b2 : Below w.heap.size w W2 := by rw [hW2]; exact b2.setCell (by simp) _
  have i2 := i2.set 2 (.slice d2 p.want.stuffs.length k2)
  have z2 := z2.other (a := ⟨w.heap.size, 2, none⟩) hne (.slice d2 p.want.stuffs.length k2)
  have s2 := s2.only (Only.cell _ ⟨w.heap.size, 2, none⟩ (.slice d2 p.want.stuffs.length k2)) (fun y hy e => by have := O2.out y hy; simp only at e; omega)
  have s3 := s3.only (Only.cell _ ⟨w.heap.size, 2, none⟩ (.slice d2 p.want.stuffs.length k2)) (fun y hy e => by have := O3.out y hy; simp only at e; omega)
  have sW2 : W2.heap.size = w2.heap.size := by rw [hW2, Go.Deep.nblk_setCell]
  rw [← hW2] at i2 z2 s2 s3 ⊢
  clear hW2 q4 f2 g2
  refine (l1Names_own a4 p.want.opens.length c4 (strF p.want.opens) W2 (hin.later b2).opens (oneStr _) r4).mono ?_
  rintro e w3 ⟨⟨d4, k4, rfl, s4, -, lo4⟩, hb⟩
  have b3 := b2.trans (hb.mono b2.size)
  have i3 := i2.later hb
  have z3 := z2.later hb
  have s2 := s2.later hb
  have s3 := s3.later hb
  have sz3 : w2.heap.size ≤ w3.heap.size := by have := hb.size; omega
  have O4 : Hid (∀ y, InSlot d4 p.want.opens.length y → w2.heap.size ≤ y ∧ y < w3.heap.size) := fun y hy => ⟨by have := lo4 y hy.2; omega, s4.lt hy⟩
  clear b2 i2 z2 hb sW2 lo4
  have q5 := i3.cell 5 rfl
  have f4 := i3.frozen 4
  have g4 := i3.cell 4 rfl
  go_wp2_with fail
  obtain ⟨W3, hW3⟩ : ∃ W, W = w3.setCell ⟨w.heap.size, 4, none⟩ (.slice d4 p.want.opens.length k4) := ⟨_, rfl⟩
  have b3 : Below w.heap.size w W3 := by rw [hW3]; exact b3.setCell (by simp) _
  have i3 := i3.set 4 (.slice d4 p.want.opens.length k4)
  have z3 := z3.other (a := ⟨w.heap.size, 4, none⟩) hne (.slice d4 p.want.opens.length k4)
  have s2 := s2.only (Only.cell _ ⟨w.heap.size, 4, none⟩ (.slice d4 p.want.opens.length k4)) (fun y hy e => by have := O2.out y hy; simp only at e; omega)
  have s3 := s3.only (Only.cell _ ⟨w.heap.size, 4, none⟩ (.slice d4 p.want.opens.length k4)) (fun y hy e => by have := O3.out y hy; simp only at e; omega)
  have s4 := s4.only (Only.cell _ ⟨w.heap.size, 4, none⟩ (.slice d4 p.want.opens.length k4)) (fun y hy e => by have := O4.out y hy; simp only at e; omega)
  have sW3 : W3.heap.size = w3.heap.size := by rw [hW3, Go.Deep.nblk_setCell]
  rw [← hW3] at i3 z3 s2 s3 s4 ⊢
  clear hW3 q5 f4 g4
  refine (l1Names_own a5 p.want.shuts.length c5 (strF p.want.shuts) W3 (hin.later b3).shuts (oneStr _) r5).mono ?_
  rintro e w4 ⟨⟨d5, k5, rfl, s5, -, lo5⟩, hb⟩
  have b4 := b3.trans (hb.mono b3.size)
  have i4 := i3.later hb
  have z4 := z3.later hb
  have s2 := s2.later hb
  have s3 := s3.later hb
  have s4 := s4.later hb
  have O5 : Hid (∀ y, InSlot d5 p.want.shuts.length y → w3.heap.size ≤ y) := fun y hy => by have := lo5 y hy.2; omega
  have own : OwnLists w4 p (fourA d2 d3 d4 d5) := by
    refine ⟨fun c hc => ?_, fun c d hc hd hcd y hy hy' => ?_⟩
    · match c, hc with
      | 0, _ => exact s2
      | 1, _ => exact s3
      | 2, _ => exact s4
      | 3, _ => exact s5
    · match c, hc, d, hd with
      | 0, _, 0, _ => exact hcd rfl
      | 0, _, 1, _ => have := O2.out y hy; have := O3.out y hy'; omega
      | 0, _, 2, _ => have := O2.out y hy; have := O4.out y hy'; omega
      | 0, _, 3, _ => have := O2.out y hy; have := O5.out y hy'; omega
      | 1, _, 0, _ => have := O2.out y hy'; have := O3.out y hy; omega
      | 1, _, 1, _ => exact hcd rfl
      | 1, _, 2, _ => have := O3.out y hy; have := O4.out y hy'; omega
      | 1, _, 3, _ => have := O3.out y hy; have := O5.out y hy'; omega
      | 2, _, 0, _ => have := O2.out y hy'; have := O4.out y hy; omega
      | 2, _, 1, _ => have := O3.out y hy'; have := O4.out y hy; omega
      | 2, _, 2, _ => exact hcd rfl
      | 2, _, 3, _ => have := O4.out y hy; have := O5.out y hy'; omega
      | 3, _, 0, _ => have := O2.out y hy'; have := O5.out y hy; omega
      | 3, _, 1, _ => have := O3.out y hy'; have := O5.out y hy; omega
      | 3, _, 2, _ => have := O4.out y hy'; have := O5.out y hy; omega
      | 3, _, 3, _ => exact hcd rfl
  have LO : Hid (∀ y, InLists p (fourA d2 d3 d4 d5) y → w.heap.size + 2 ≤ y) := fun y ⟨c, hc, hy⟩ => by
    match c, hc with
    | 0, _ => have := O2.out y hy; omega
    | 1, _ => have := O3.out y hy; omega
    | 2, _ => have := O4.out y hy; omega
    | 3, _ => have := O5.out y hy; omega
  have OWN : Hid _ := own
  clear b3 i3 z3 hb sW3 lo5 O2 O3 O4 O5 s2 s3 s4 s5 own
  have f5 := i4.frozen 5
  have g0 := i4.cell 0 rfl
  have g1 := i4.cell 1 rfl
  have g2 := i4.cell 2 rfl
  have g3 := i4.cell 3 rfl
  have g4 := i4.cell 4 rfl
  have g5 := i4.cell 5 rfl
  have r0 := z4.cell 0 rfl
  have r1 := z4.cell 1 rfl
  have r2 := z4.cell 2 rfl
  have r3 := z4.cell 3 rfl
  have r4 := z4.cell 4 rfl
  have r5 := z4.cell 5 rfl
  have k0' := z4.frozen 0
  have k1' := z4.frozen 1
  have k2' := z4.frozen 2
  have k3' := z4.frozen 3
  have k4' := z4.frozen 4
  have k5' := z4.frozen 5
  go_wp2
  refine bodyPost_ret (v := .agg #[.int .i64 p.want.number, .int .i64 p.want.kind, .slice d2 p.want.stuffs.length k2, .slice d3 p.want.uses.length k3, .slice d4 p.want.opens.length k4, .slice d5 p.want.shuts.length k5])
    (by simp [results, Tryz.results87, go_sem, r0, r1, r2, r3, r4, r5]) rfl ⟨⟨fourA d2 d3 d4 d5, fourN k2 k3 k4 k5, rfl, ?_, fun y hy => by have := LO.out y hy; omega⟩, ?_⟩
  · have g1 : ∀ y, InLists p (fourA d2 d3 d4 d5) y → ¬ y = w.heap.size + 1 := fun y hy => by have := LO.out y hy; omega
    have g2 : ∀ y, InLists p (fourA d2 d3 d4 d5) y → ¬ y = w.heap.size := fun y hy => by have := LO.out y hy; omega
    exact ((((((OWN.out.only (Only.cell _ ⟨w.heap.size, 5, none⟩ _) g2).only (Only.cell _ ⟨w.heap.size + 1, 0, none⟩ _) g1).only (Only.cell _ ⟨w.heap.size + 1, 1, none⟩ _) g1).only (Only.cell _ ⟨w.heap.size + 1, 2, none⟩ _) g1).only (Only.cell _ ⟨w.heap.size + 1, 3, none⟩ _) g1).only (Only.cell _ ⟨w.heap.size + 1, 4, none⟩ _) g1).only (Only.cell _ ⟨w.heap.size + 1, 5, none⟩ _) g1
  · exact ((((((b4.setCell (by simp) _).setCell (by simp) _).setCell (by simp) _).setCell (by simp) _).setCell (by simp) _).setCell (by simp) _).setCell (by simp) _

end Go.Proofs.YtfmhkicncgccjaaGreatDoor

/- Appends to what has no room; the first part of a copy. -/
namespace Go.Proofs.YtfmhkicncgccjaaGreatDoor
open Go.RowKit Go.Sort
set_option linter.unusedSimpArgs false
set_option linter.unusedVariables false

theorem Row.of_eq {w : World} {b : Nat} {t : TypeId} {l l' : List Value} (h : Row w b t l) (e : l = l') : Row w b t l' := e ▸ h
theorem below_only {W0 W w6 : World} {B : Nat → Prop} (h : Below W0.heap.size W0 W) (ho : Only B W w6) (hB : ∀ y, B y → W0.heap.size ≤ y) : Below W0.heap.size W0 w6 := h.trans (ho.below hB h.size)
theorem below_next {W0 W w1 : World} (h : Below W0.heap.size W0 W) (h' : Below W.heap.size W w1) : Below W0.heap.size W0 w1 := h.trans (h'.mono h.size)
theorem bcell {W w1 : World} (hb : Below W.heap.size W w1) : (∀ b o, b < W.heap.size → w1.cell? ⟨b, o, none⟩ = W.cell? ⟨b, o, none⟩) ∧ (∀ b o, b < W.heap.size → w1.frozen? ⟨b, o, none⟩ = W.frozen? ⟨b, o, none⟩) :=
  ⟨fun b o h => hb.cell (p := ⟨b, o, none⟩) h, fun b o h => hb.frozen (p := ⟨b, o, none⟩) h⟩

/-- An append to an empty slice with no room: whatever it points to, that is left alone. -/
theorem run_append_zero {P : Program} (w : World) {t e : TypeId} {size : Nat} (ty : TypeId) (hT : SliceT P t e size) (a0 : Option Addr) (ax : Option Addr) (m c : Nat) (g : Nat → Nat → Value) (hx : RowAt w ax m size g) (h1 : ∀ k j, (g k j).oneCell' = true) (hn : m ≤ 16777216) :
    ∃ a' c' w', (Builtin.append_ #[t, t] ty #[.slice a0 0 0, .slice ax m c]).run P w = .ok (.slice a' m c') w' ∧ OwnL w' e size a' m g ∧ (∀ y, InSlot a' m y → y = w.heap.size) ∧ m ≤ c' ∧ Below w.heap.size w w' := by
  by_cases hm : m = 0
  · subst hm
    obtain ⟨i, z, ht, hi, hz, hs, hzs, h0, hb⟩ := hT
    refine ⟨a0, 0, w, ?_, Or.inl rfl, fun y hy => absurd rfl hy.1, Nat.le_refl _, Below.refl _ _⟩
    cases ax <;> cases a0 <;> simp [Builtin.append_, run_underlying ht, sizeOf, typeInfo, hi, Builtin.lenOf, Builtin.firstCells, loadCells, loadCellsFrom, storeCells]
  · obtain ⟨a', c', w', hr, ap⟩ := run_append_row (P := P) w ty hT none 0 0 g (ownL_zero _ _ _ _ _) (capOf_nil _ _ _) ax m c g hx h1 (by omega)
    have h2 := ap.own
    have h3 := ap.cap
    rw [Nat.zero_add] at h2 h3 hr
    have hb : Below w.heap.size w w' := ap.only.below (fun y ⟨o, h⟩ => by cases h) (Nat.le_refl _)
    have ho : OwnL w' e size a' m g := h2.congr (fun k hk j hj => by have := behindF_ge (n := 0) (f := g) (g := g) (k := k) (j := j); rw [Nat.zero_add] at this; exact this)
    have hy : ∀ y, InSlot a' m y → y = w.heap.size := fun y hy => by
      rcases ap.at_ y hy.2 with ⟨o, h⟩ | h
      · cases h
      · exact h
    cases a0 with
    | none => exact ⟨a', c', w', hr, ho, hy, h3.le, hb⟩
    | some ad =>
      obtain ⟨i, z, ht, hi, hz, hs, hzs, h0, hbt⟩ := hT
      refine ⟨a', c', w', ?_, ho, hy, h3.le, hb⟩
      rw [← hr]
      cases ax with
      | none =>
        obtain ⟨_, _, h, _⟩ := hx 0 (by omega)
        cases h
      | some ax =>
        have hl : m * i.bytes ≤ 16777216 * 1024 := Nat.mul_le_mul hn hbt
        have hfl : (flat m size g).length = m * i.size := by rw [flat_length, hs]
        have r1 := run_append_nil (P := P) w t ty e i z ht hi hz ax m c (flat m size g) hfl (flat_news hx) (by omega) (by omega) (by omega)
        have r2 := run_append_grow (P := P) w t ty e i z ht hi hz ad 0 0 [] (by simp) (by simp) ax m c (flat m size g) hfl (flat_news hx) (by omega) (by omega) (growslice_fits (by omega) (by simp; omega))
        rw [r1, r2]
        simp

theorem step_append_zero {P : Program} {w : World} {ops : Array Oper} {o : Oper} {a : Act} {K : Act → World → Prop} {Q : Exit → Act → World → Prop} {E : Prop} (hgd : o.guard = none) (s x : Operand) {t e : TypeId} {size : Nat}
    (ho : o.op = .call { callee := .builtin .append, args := #[s, x], argTypes := #[t, t] }) (hT : SliceT P t e size)
    (a0 : Option Addr) (hs : a.eval s = .slice a0 0 0)
    (ax : Option Addr) (m c : Nat) (g : Nat → Nat → Value) (hxe : a.eval x = .slice ax m c) (hx : RowAt w ax m size g) (h1 : ∀ k j, (g k j).oneCell' = true) (hn : m ≤ 16777216)
    (h : ∀ a' c' w', OwnL w' e size a' m g → (∀ y, InSlot a' m y → y = w.heap.size) → m ≤ c' → Below w.heap.size w w' → K (a.put o.dst (.slice a' m c')) w') :
    if Region.wanted o (yielded ops a.tmps) = true then Oper.wp P o a w K Q else E := by
  have hw : Region.wanted o (yielded ops a.tmps) = true := by simp [Region.wanted, hgd]
  rw [if_pos hw]
  obtain ⟨a', c', w', hr, h2, h3, h4, h5⟩ := run_append_zero (P := P) w o.type hT a0 ax m c g hx h1 hn
  unfold Oper.wp execOp
  simp only [ho, resolve, invoke, builtin, Sem.run_bind, Sem.run_pure, Result.andThen_ok, List.map_toArray, List.map_cons, List.map_nil, hs, hxe, hr]
  exact h a' c' w' h2 h3 h4 h5

/-- The first part of a copy: foes and valves, behind W0; the copy lies in block B. -/
structure CopyA (W0 X : World) (B : Nat) (x : Book) (d0 d2 : Option Addr) (k0 k2 : Nat) : Prop where
  row : Row X B 38 [.slice d0 x.foes.length k0, .slice none 0 0, .slice d2 x.valves.length k2, .slice none 0 0, .int .i64 x.seen]
  foes : OwnL X 105 2 d0 x.foes.length (foeF x.foes)
  valves : OwnL X 9 1 d2 x.valves.length (strF x.valves)
  below : Below W0.heap.size W0 X
  b0 : W0.heap.size ≤ B
  f0 : ∀ y, InSlot d0 x.foes.length y → W0.heap.size ≤ y ∧ y ≠ B
  v0 : ∀ y, InSlot d2 x.valves.length y → W0.heap.size ≤ y ∧ y ≠ B
  fv : ∀ y, InSlot d0 x.foes.length y → ¬ InSlot d2 x.valves.length y

theorem rowAt_part (w : World) (p : Part) (A : Nat → Option Addr) (C : Nat → Nat) : RowAt (w.alloc (.cells #[.int .i64 p.want.number, .int .i64 p.want.kind, .slice (A 0) p.want.stuffs.length (C 0), .slice (A 1) p.want.uses.length (C 1), .slice (A 2) p.want.opens.length (C 2), .slice (A 3) p.want.shuts.length (C 3), .bool p.stopped] 60)) (some ⟨w.heap.size, 0, none⟩) 1 7 (fun _ => partCell p (fun f => A (f - 2)) (fun f => C (f - 2))) := by
  have r := Row.new w 60 [.int .i64 p.want.number, .int .i64 p.want.kind, .slice (A 0) p.want.stuffs.length (C 0), .slice (A 1) p.want.uses.length (C 1), .slice (A 2) p.want.opens.length (C 2), .slice (A 3) p.want.shuts.length (C 3), .bool p.stopped]
  intro q hq
  have : q = 0 := by omega
  subst this
  refine ⟨_, _, rfl, r.lt, fun j hj => ?_⟩
  match j, hj with
  | 0, _ => exact r.cell 0 rfl
  | 1, _ => exact r.cell 1 rfl
  | 2, _ => exact r.cell 2 rfl
  | 3, _ => exact r.cell 3 rfl
  | 4, _ => exact r.cell 4 rfl
  | 5, _ => exact r.cell 5 rfl
  | 6, _ => exact r.cell 6 rfl

theorem Row.drew {w : World} {b : Nat} {t : TypeId} {l : List Value} (h : Row w b t l) : Row w.drew b t l := h
theorem Row.new' {w : World} {b : Nat} {t : TypeId} {l : List Value} (hb : b = w.heap.size) : Row (w.alloc (.cells l.toArray t)) b t l := hb ▸ Row.new w t l
theorem CopyA.last {W0 w1 w2 : World} {x : Book} {d0 d2 : Option Addr} {k0 k2 SA : Nat} (oA : OwnL w1 105 2 d0 x.foes.length (foeF x.foes)) (loA : ∀ y, InSlot d0 x.foes.length y → y = SA) (hSA : W0.heap.size ≤ SA)
    (hb : Below w1.heap.size w1 w2) (oB : OwnL w2 9 1 d2 x.valves.length (strF x.valves)) (loB : ∀ y, InAddr d2 y → w1.heap.size ≤ y) (hs : W0.heap.size ≤ w1.heap.size) (hb' : Below W0.heap.size W0 w2) :
    CopyA W0 (w2.alloc (.cells #[.slice d0 x.foes.length k0, .slice none 0 0, .slice d2 x.valves.length k2, .slice none 0 0, .int .i64 x.seen] 38)) w2.heap.size x d0 d2 k0 k2 := by
  have hn := (Below.refl w2.heap.size w2).alloc (Nat.le_refl _) (.cells #[.slice d0 x.foes.length k0, .slice none 0 0, .slice d2 x.valves.length k2, .slice none 0 0, .int .i64 x.seen] 38)
  refine ⟨Row.new _ _ _, (oA.later hb).later hn, oB.later hn, hb'.alloc hb'.size _, hb'.size, fun y hy => ?_, fun y hy => ?_, fun y hy hy' => ?_⟩
  · have := oA.lt hy; have := hb.size; have := loA y hy; omega
  · have := oB.lt hy; have := loB y hy.2; omega
  · have := oA.lt hy; have := loB y hy'.2; omega
theorem CopyA.early {W0 w1 w2 : World} {x : Book} {d0 d2 : Option Addr} {k0 k2 SA B : Nat} (oA : OwnL w1 105 2 d0 x.foes.length (foeF x.foes)) (loA : ∀ y, InSlot d0 x.foes.length y → y = SA) (hSA : W0.heap.size ≤ SA)
    (hb : Below w1.heap.size w1 w2) (oB : OwnL w2 9 1 d2 x.valves.length (strF x.valves)) (loB : ∀ y, InAddr d2 y → w1.heap.size ≤ y ∧ B < y) (hs : W0.heap.size ≤ w1.heap.size) (hb' : Below W0.heap.size W0 w2) (hB : W0.heap.size ≤ B) (hBA : B < SA ∨ w1.heap.size ≤ B)
    {v0 v1 v2 v3 v4 : Value} (hrow : Row w2 B 38 [v0, v1, v2, v3, v4]) :
    CopyA W0 (((((w2.setCell ⟨B, 0, none⟩ (.slice d0 x.foes.length k0)).setCell ⟨B, 1, none⟩ (.slice none 0 0)).setCell ⟨B, 2, none⟩ (.slice d2 x.valves.length k2)).setCell ⟨B, 3, none⟩ (.slice none 0 0)).setCell ⟨B, 4, none⟩ (.int .i64 x.seen)) B x d0 d2 k0 k2 := by
  have on : ∀ (W : World) (i : Nat) (v : Value), Only (fun y => y = B) W (W.setCell ⟨B, i, none⟩ v) := fun W i v => Only.cell W ⟨B, i, none⟩ v
  have on5 := ((((on w2 0 (.slice d0 x.foes.length k0)).trans (on _ 1 (.slice none 0 0))).trans (on _ 2 (.slice d2 x.valves.length k2))).trans (on _ 3 (.slice none 0 0))).trans (on _ 4 (.int .i64 x.seen))
  have nA : ∀ y, InSlot d0 x.foes.length y → y ≠ B := fun y hy => by have := oA.lt hy; have := loA y hy; omega
  have nB : ∀ y, InSlot d2 x.valves.length y → y ≠ B := fun y hy => by have := loB y hy.2; omega
  refine ⟨((((hrow.set 0 _).set 1 _).set 2 _).set 3 _).set 4 _, (oA.later hb).only on5 nA, oB.only on5 nB, ((((hb'.setCell hB _).setCell hB _).setCell hB _).setCell hB _).setCell hB _, hB, fun y hy => ⟨?_, nA y hy⟩, fun y hy => ⟨?_, nB y hy⟩, fun y hy hy' => ?_⟩
  · have := loA y hy; omega
  · have := loB y hy.2; omega
  · have := oA.lt hy; have := loB y hy'.2; omega

end Go.Proofs.YtfmhkicncgccjaaGreatDoor

/- Appends to lists that may be empty and without room, whatever they point to. -/
namespace Go.Proofs.YtfmhkicncgccjaaGreatDoor
open Go.RowKit Go.Sort
set_option linter.unusedSimpArgs false
set_option linter.unusedVariables false

/-- The room of a list; of an empty one without room nothing is said. -/
def CapW (w : World) (t : TypeId) (s : Nat) (a : Option Addr) (n c : Nat) : Prop :=
  (n = 0 ∧ c = 0) ∨ ∃ b l, a = some ⟨b, 0, none⟩ ∧ Row w b t l ∧ l.length = c * s ∧ n ≤ c ∧ c ≤ maxLen
theorem CapOf.wide {w : World} {t : TypeId} {s : Nat} {a : Option Addr} {n c : Nat} (h : CapOf w t s a n c) : CapW w t s a n c := by
  rcases h with ⟨h, _, h'⟩ | h
  · exact Or.inl ⟨h, h'⟩
  · exact Or.inr h
theorem CapW.only {B : Nat → Prop} {w w' : World} {t : TypeId} {s : Nat} {a : Option Addr} {n c : Nat} (h : CapW w t s a n c) (ho : Only B w w') (hB : ∀ y, InAddr a y → ¬ B y) : CapW w' t s a n c := by
  rcases h with h | ⟨b, l, rfl, hr, hl, hn, hm⟩
  · exact Or.inl h
  · exact Or.inr ⟨b, l, rfl, hr.only ho (hB b ⟨0, rfl⟩), hl, hn, hm⟩
theorem CapW.later {w w' : World} {t : TypeId} {s : Nat} {a : Option Addr} {n c : Nat} (h : CapW w t s a n c) (hb : Below w.heap.size w w') : CapW w' t s a n c := h.only (Only.of (B := fun _ => False) hb) (fun _ _ => id)
theorem CapW.le {w : World} {t : TypeId} {s : Nat} {a : Option Addr} {n c : Nat} (h : CapW w t s a n c) : n ≤ c := by
  rcases h with ⟨h, h'⟩ | ⟨b, l, e, hr, hl, hn, hm⟩
  · omega
  · exact hn
theorem RowAt.take {w : World} {a : Option Addr} {n size : Nat} {f : Nat → Nat → Value} (h : RowAt w a n size f) {m : Nat} (hm : m ≤ n) : RowAt w a m size f := fun k hk => h k (by omega)
/-- What stands from place q on. -/
theorem RowAt.drop {w : World} {b o n size : Nat} {f : Nat → Nat → Value} (h : RowAt w (some ⟨b, o, none⟩) n size f) {q : Nat} (hq : q ≤ n) : RowAt w (some ⟨b, o + q * size, none⟩) (n - q) size (fun k => f (q + k)) := by
  intro k hk
  obtain ⟨b', o', e, hb, hc⟩ := h (q + k) (by omega)
  cases e
  refine ⟨b, o + q * size, rfl, hb, fun j hj => ?_⟩
  have := hc j hj
  rw [Nat.add_mul, ← Nat.add_assoc o] at this
  exact this

theorem run_append_w {P : Program} (w : World) {t e : TypeId} {size : Nat} (ty : TypeId) (hT : SliceT P t e size) (a0 : Option Addr) (n c0 : Nat) (f : Nat → Nat → Value) (ho : OwnL w e size a0 n f) (hc : CapW w e size a0 n c0)
    (ax : Option Addr) (m c : Nat) (g : Nat → Nat → Value) (hx : RowAt w ax m size g) (h1 : ∀ k j, (g k j).oneCell' = true) (hn : n + m ≤ 16777216) :
    ∃ a' c' w', (Builtin.append_ #[t, t] ty #[.slice a0 n c0, .slice ax m c]).run P w = .ok (.slice a' (n + m) c') w' ∧ OwnL w' e size a' (n + m) (behindF n f g) ∧ CapW w' e size a' (n + m) c' ∧ (∀ y, InAddr a' y → InAddr a0 y ∨ y = w.heap.size) ∧ Only (InAddr a0) w w' := by
  rcases hc with ⟨rfl, rfl⟩ | ⟨b, l, rfl, hr, hl, hnc, hm⟩
  · by_cases hm : m = 0
    · subst hm
      obtain ⟨i, z, ht, hi, hz, hs, hzs, h0, hb⟩ := hT
      refine ⟨a0, 0, w, ?_, Or.inl rfl, Or.inl ⟨rfl, rfl⟩, fun y hy => Or.inl hy, Only.refl _ _⟩
      cases ax <;> cases a0 <;> simp [Builtin.append_, run_underlying ht, sizeOf, typeInfo, hi, Builtin.lenOf, Builtin.firstCells, loadCells, loadCellsFrom, storeCells]
    · obtain ⟨a', c', w', hr, ap⟩ := run_append_row (P := P) w ty hT none 0 0 f (ownL_zero _ _ _ _ _) (capOf_nil _ _ _) ax m c g hx h1 (by omega)
      have hat : ∀ y, InAddr a' y → InAddr a0 y ∨ y = w.heap.size := fun y hy => by
        rcases ap.at_ y hy with ⟨o, h⟩ | h
        · cases h
        · exact Or.inr h
      have hon : Only (InAddr a0) w w' := ap.only.mono (fun y ⟨o, h⟩ => by cases h)
      refine ⟨a', c', w', ?_, ap.own, ap.cap.wide, hat, hon⟩
      cases a0 with
      | none => exact hr
      | some ad =>
        rw [← hr]
        obtain ⟨i, z, ht, hi, hz, hs, hzs, h0, hbt⟩ := hT
        cases ax with
        | none =>
          obtain ⟨_, _, h, _⟩ := hx 0 (by omega)
          cases h
        | some ax =>
          have hl : m * i.bytes ≤ 16777216 * 1024 := Nat.mul_le_mul (by omega) hbt
          have hfl : (flat m size g).length = m * i.size := by rw [flat_length, hs]
          have r1 := run_append_nil (P := P) w t ty e i z ht hi hz ax m c (flat m size g) hfl (flat_news hx) (by omega) (by omega) (by omega)
          have r2 := run_append_grow (P := P) w t ty e i z ht hi hz ad 0 0 [] (by simp) (by simp) ax m c (flat m size g) hfl (flat_news hx) (by omega) (by omega) (growslice_fits (by omega) (by simp; omega))
          rw [r1, r2]
          simp
  · obtain ⟨a', c', w', hr', ap⟩ := run_append_row (P := P) w ty hT (some ⟨b, 0, none⟩) n c0 f ho (Or.inr ⟨b, l, rfl, hr, hl, hnc, hm⟩) ax m c g hx h1 hn
    exact ⟨a', c', w', hr', ap.own, ap.cap.wide, ap.at_, ap.only⟩

theorem run_append_z {P : Program} (w : World) {t e : TypeId} {size : Nat} (ty : TypeId) (hT : SliceT P t e size) (a0 : Option Addr)
    (ax : Option Addr) (m c : Nat) (g : Nat → Nat → Value) (hx : RowAt w ax m size g) (h1 : ∀ k j, (g k j).oneCell' = true) (hn : m ≤ 16777216) :
    ∃ a' c' w', (Builtin.append_ #[t, t] ty #[.slice a0 0 0, .slice ax m c]).run P w = .ok (.slice a' m c') w' ∧ OwnL w' e size a' m g ∧ CapW w' e size a' m c' ∧ (∀ y, InAddr a' y → InAddr a0 y ∨ y = w.heap.size) ∧ Below w.heap.size w w' := by
  obtain ⟨a', c', w', hr, h2, h3, h4, h5⟩ := run_append_zero (P := P) w ty hT a0 ax m c g hx h1 hn
  obtain ⟨a2, c2, w2, hr2, o2, p2, at2, on2⟩ := run_append_w (P := P) w ty hT a0 0 0 g (ownL_zero _ _ _ _ _) (Or.inl ⟨rfl, rfl⟩) ax m c g hx h1 (by omega)
  rw [hr] at hr2
  rw [Nat.zero_add] at hr2 p2
  simp only [Result.ok.injEq, Value.slice.injEq, true_and] at hr2
  obtain ⟨⟨rfl, rfl⟩, rfl⟩ := hr2
  exact ⟨a', c', w', hr, h2, p2, at2, h5⟩

theorem step_append_z {P : Program} {w : World} {ops : Array Oper} {o : Oper} {a : Act} {K : Act → World → Prop} {Q : Exit → Act → World → Prop} {E : Prop} (hgd : o.guard = none) (s x : Operand) {t e : TypeId} {size : Nat}
    (ho : o.op = .call { callee := .builtin .append, args := #[s, x], argTypes := #[t, t] }) (hT : SliceT P t e size)
    (a0 : Option Addr) (hs : a.eval s = .slice a0 0 0)
    (ax : Option Addr) (m c : Nat) (g : Nat → Nat → Value) (hxe : a.eval x = .slice ax m c) (hx : RowAt w ax m size g) (h1 : ∀ k j, (g k j).oneCell' = true) (hn : m ≤ 16777216)
    (h : ∀ a' c' w', OwnL w' e size a' m g → CapW w' e size a' m c' → (∀ y, InAddr a' y → InAddr a0 y ∨ y = w.heap.size) → Below w.heap.size w w' → K (a.put o.dst (.slice a' m c')) w') :
    if Region.wanted o (yielded ops a.tmps) = true then Oper.wp P o a w K Q else E := by
  have hw : Region.wanted o (yielded ops a.tmps) = true := by simp [Region.wanted, hgd]
  rw [if_pos hw]
  obtain ⟨a', c', w', hr, h2, h3, h4, h5⟩ := run_append_z (P := P) w o.type hT a0 ax m c g hx h1 hn
  unfold Oper.wp execOp
  simp only [ho, resolve, invoke, builtin, Sem.run_bind, Sem.run_pure, Result.andThen_ok, List.map_toArray, List.map_cons, List.map_nil, hs, hxe, hr]
  exact h a' c' w' h2 h3 h4 h5
theorem rowAt_one {W : World} {E : Nat} {t : TypeId} {v : Value} (h : Row W E t [v]) : RowAt W (some ⟨E, 0, none⟩) 1 1 (fun _ _ => v) := by
  intro q hq
  have : q = 0 := by omega
  subst this
  refine ⟨_, _, rfl, h.lt, fun j hj => ?_⟩
  have : j = 0 := by omega
  subst this
  exact h.cell 0 rfl

theorem step_append_w {P : Program} {w : World} {ops : Array Oper} {o : Oper} {a : Act} {K : Act → World → Prop} {Q : Exit → Act → World → Prop} {E : Prop} (hgd : o.guard = none) (s x : Operand) {t e : TypeId} {size : Nat}
    (ho : o.op = .call { callee := .builtin .append, args := #[s, x], argTypes := #[t, t] }) (hT : SliceT P t e size)
    (a0 : Option Addr) (n c0 : Nat) (f : Nat → Nat → Value) (hs : a.eval s = .slice a0 n c0) (hown : OwnL w e size a0 n f) (hc : CapW w e size a0 n c0)
    (ax : Option Addr) (m c : Nat) (g : Nat → Nat → Value) (hxe : a.eval x = .slice ax m c) (hx : RowAt w ax m size g) (h1 : ∀ k j, (g k j).oneCell' = true) (hn : n + m ≤ 16777216)
    (h : ∀ a' c' w', OwnL w' e size a' (n + m) (behindF n f g) → CapW w' e size a' (n + m) c' → (∀ y, InAddr a' y → InAddr a0 y ∨ y = w.heap.size) → Only (InAddr a0) w w' → K (a.put o.dst (.slice a' (n + m) c')) w') :
    if Region.wanted o (yielded ops a.tmps) = true then Oper.wp P o a w K Q else E := by
  have hw : Region.wanted o (yielded ops a.tmps) = true := by simp [Region.wanted, hgd]
  rw [if_pos hw]
  obtain ⟨a', c', w', hr, h2, h3, h4, h5⟩ := run_append_w (P := P) w o.type hT a0 n c0 f hown hc ax m c g hx h1 hn
  unfold Oper.wp execOp
  simp only [ho, resolve, invoke, builtin, Sem.run_bind, Sem.run_pure, Result.andThen_ok, List.map_toArray, List.map_cons, List.map_nil, hs, hxe, hr]
  exact h a' c' w' h2 h3 h4 h5

end Go.Proofs.YtfmhkicncgccjaaGreatDoor

/- What the program's freshBook owns. -/
namespace Go.Proofs.YtfmhkicncgccjaaGreatDoor
open Go.RowKit Go.Sort
set_option linter.unusedSimpArgs false
set_option linter.unusedVariables false

theorem divmod_inj {s k j k' j' : Nat} (hj : j < s) (hj' : j' < s) (h : k * s + j = k' * s + j') : k = k' ∧ j = j' := by
  have e1 : (k * s + j) / s = k := by rw [Nat.mul_comm, Nat.mul_add_div (by omega), Nat.div_eq_of_lt hj, Nat.add_zero]
  have e2 : (k' * s + j') / s = k' := by rw [Nat.mul_comm, Nat.mul_add_div (by omega), Nat.div_eq_of_lt hj', Nat.add_zero]
  rw [h, e2] at e1
  subst e1
  exact ⟨rfl, by omega⟩
theorem OwnL.setAt {w : World} {t : TypeId} {s b n : Nat} {f : Nat → Nat → Value} (h : OwnL w t s (some ⟨b, 0, none⟩) n f) {k j : Nat} (hk : k < n) (hj : j < s) (v : Value) :
    OwnL (w.setCell ⟨b, k * s + j, none⟩ v) t s (some ⟨b, 0, none⟩) n (fun k' j' => if k' = k ∧ j' = j then v else f k' j') := by
  rcases h with h | ⟨b', l, e, hr, hl, hc⟩
  · omega
  · cases e
    have hlt : k * s + j < l.length := by
      have h1 : (k + 1) * s ≤ n * s := Nat.mul_le_mul_right s hk
      rw [Nat.add_mul, Nat.one_mul] at h1
      omega
    refine Or.inr ⟨b, _, rfl, hr.set _ v, by simpa using hl, fun k' hk' j' hj' => ?_⟩
    rw [List.getElem?_set]
    by_cases e : k' = k ∧ j' = j
    · obtain ⟨rfl, rfl⟩ := e
      simp [hlt]
    · rw [if_neg (fun e2 => e (by have := divmod_inj hj hj' e2; exact ⟨this.1.symm, this.2.symm⟩))]
      simp only [if_neg e]
      exact hc k' hk' j' hj'
theorem OwnL.cellAt {w : World} {t : TypeId} {s b n : Nat} {f : Nat → Nat → Value} (h : OwnL w t s (some ⟨b, 0, none⟩) n f) {k j : Nat} (hk : k < n) (hj : j < s) : w.cell? ⟨b, k * s + j, none⟩ = some (f k j) ∧ w.frozen? ⟨b, k * s + j, none⟩ = false ∧ b < w.heap.size := by
  rcases h with h | ⟨b', l, e, hr, hl, hc⟩
  · omega
  · cases e
    exact ⟨hr.cell _ (hc k hk j hj), hr.frozen _, hr.lt⟩
theorem OwnL.some_of {w : World} {t : TypeId} {s n : Nat} {a : Option Addr} {f : Nat → Nat → Value} (h : OwnL w t s a n f) (hn : n ≠ 0) : ∃ b, a = some ⟨b, 0, none⟩ := by
  rcases h with h | ⟨b', l, e, hr, hl, hc⟩
  · exact absurd h hn
  · exact ⟨b', e⟩
theorem CapOf.set {w : World} {t : TypeId} {s b n c : Nat} (h : CapOf w t s (some ⟨b, 0, none⟩) n c) (i : Nat) (v : Value) : CapOf (w.setCell ⟨b, i, none⟩ v) t s (some ⟨b, 0, none⟩) n c := by
  rcases h with ⟨_, h, _⟩ | ⟨b', l, e, hr, hl, hn, hm⟩
  · cases h
  · cases e
    exact Or.inr ⟨b, _, rfl, hr.set i v, by simpa using hl, hn, hm⟩

/-- The cells of spots, those ahead of k with lists of their own. -/
def mixS (ps : List Spot) (k : Nat) (A : Nat → Option Addr) (C : Nat → Nat) (m : Nat → Option Addr) (c : Nat → Nat) (j : Nat) : Nat → Value :=
  if j < k then spotCell (gp ps j) (A j) (C j) else spotCell (gp ps j) (m j) (c j)
/-- Spots under way: those ahead of k own their lists, which lie from B on. -/
structure MidSpots (X : World) (B : Nat) (a : Option Addr) (ps : List Spot) (k : Nat) (A : Nat → Option Addr) (C : Nat → Nat) (m : Nat → Option Addr) (c : Nat → Nat) : Prop where
  row : OwnL X 99 5 a ps.length (mixS ps k A C m c)
  may : ∀ j, j < k → OwnL X 9 1 (A j) (gp ps j).may.length (strF (gp ps j).may)
  cap : ∀ j, j < k → (gp ps j).may.length ≤ C j
  from_ : ∀ j, j < k → ∀ y, InSlot (A j) (gp ps j).may.length y → B ≤ y
  each : ∀ i j, i < k → j < k → i ≠ j → ∀ y, InSlot (A i) (gp ps i).may.length y → ¬ InSlot (A j) (gp ps j).may.length y
theorem MidSpots.done {X : World} {B : Nat} {a : Option Addr} {ps : List Spot} {A : Nat → Option Addr} {C : Nat → Nat} {m : Nat → Option Addr} {c : Nat → Nat} (h : MidSpots X B a ps ps.length A C m c) (hB : ∀ y, InSlot a ps.length y → y < B) : OwnSpots X a ps A C :=
  ⟨h.row.congr (fun k hk j hj => by unfold mixS; rw [if_pos hk]), h.may, h.cap, fun k hk y hy hy' => by have := h.from_ k hk y hy; have := hB y hy'; omega, h.each⟩
theorem MidSpots.lt {X : World} {B : Nat} {a : Option Addr} {ps : List Spot} {k : Nat} {A : Nat → Option Addr} {C : Nat → Nat} {m : Nat → Option Addr} {c : Nat → Nat} (h : MidSpots X B a ps k A C m c) {j : Nat} (hj : j < k) {y : Nat} (hy : InSlot (A j) (gp ps j).may.length y) : y < X.heap.size := (h.may j hj).lt hy
/-- One more spot has a list of its own: made behind X, its place written into the row. -/
theorem MidSpots.next {X w4 : World} {B b1 : Nat} {ps : List Spot} {k : Nat} {A : Nat → Option Addr} {C : Nat → Nat} {m : Nat → Option Addr} {c : Nat → Nat} {a' : Option Addr} {c' : Nat} (h : MidSpots X B (some ⟨b1, 0, none⟩) ps k A C m c) (hk : k < ps.length) (hb : Below X.heap.size X w4) (hB : b1 < B) (hBX : B ≤ X.heap.size)
    (ho : OwnL w4 9 1 a' (gp ps k).may.length (strF (gp ps k).may)) (hlo : ∀ y, InSlot a' (gp ps k).may.length y → X.heap.size ≤ y) (hc : (gp ps k).may.length ≤ c') :
    MidSpots (w4.setCell ⟨b1, k * 5 + 4, none⟩ (.slice a' (gp ps k).may.length c')) B (some ⟨b1, 0, none⟩) ps (k + 1) (fun j => if j = k then a' else A j) (fun j => if j = k then c' else C j) m c := by
  have on := Only.cell w4 ⟨b1, k * 5 + 4, none⟩ (.slice a' (gp ps k).may.length c')
  refine ⟨?_, fun j hj => ?_, fun j hj => ?_, fun j hj y hy => ?_, fun i j hi hj hij y hy hy' => ?_⟩
  · refine ((h.row.later hb).setAt hk (by omega : 4 < 5) _).congr fun k' hk' j' hj' => ?_
    by_cases e : k' = k
    · subst e
      unfold mixS
      rw [if_pos (show k' < k' + 1 by omega)]
      match j', hj' with
      | 0, _ => simp [spotCell]
      | 1, _ => simp [spotCell]
      | 2, _ => simp [spotCell]
      | 3, _ => simp [spotCell]
      | 4, _ => simp [spotCell]
    · rw [if_neg (fun e' => e e'.1)]
      unfold mixS
      by_cases e2 : k' < k
      · rw [if_pos e2, if_pos (by omega)]
        simp only [if_neg e]
      · rw [if_neg e2, if_neg (by omega)]
  · by_cases e : j = k
    · subst e
      simp only [if_true]
      exact ho.only on (fun y hy e => by have := hlo y hy; have e' : y = b1 := e; omega)
    · simp only [if_neg e]
      exact ((h.may j (by omega)).later hb).only on (fun y hy e => by have := h.from_ j (by omega) y hy; have e' : y = b1 := e; omega)
  · by_cases e : j = k
    · subst e
      simp only [if_true]
      exact hc
    · simp only [if_neg e]
      exact h.cap j (by omega)
  · by_cases e : j = k
    · subst e
      simp only [if_true] at hy
      exact Nat.le_trans hBX (hlo y hy)
    · simp only [if_neg e] at hy
      exact h.from_ j (by omega) y hy
  · by_cases e : i = k
    · subst e
      have e2 : ¬ j = i := fun h => hij h.symm
      simp only [if_true] at hy
      simp only [if_neg e2] at hy'
      have := hlo y hy
      have := h.lt (by omega) hy'
      omega
    · simp only [if_neg e] at hy
      by_cases e2 : j = k
      · subst e2
        simp only [if_true] at hy'
        have := hlo y hy'
        have := h.lt (by omega) hy
        omega
      · simp only [if_neg e2] at hy'
        exact h.each i j (by omega) (by omega) hij y hy hy'

/-- The cells of parts, those ahead of k with lists of their own. -/
def mixP (ps : List Part) (k : Nat) (A : Nat → Nat → Option Addr) (C : Nat → Nat → Nat) (m : Nat → Nat → Option Addr) (c : Nat → Nat → Nat) (j : Nat) : Nat → Value :=
  if j < k then partCell (gq ps j) (fun f => A j (f - 2)) (fun f => C j (f - 2)) else partCell (gq ps j) (m j) (c j)
structure MidParts (X : World) (B : Nat) (a : Option Addr) (ps : List Part) (k : Nat) (A : Nat → Nat → Option Addr) (C : Nat → Nat → Nat) (m : Nat → Nat → Option Addr) (c : Nat → Nat → Nat) : Prop where
  row : OwnL X 60 7 a ps.length (mixP ps k A C m c)
  list : ∀ j, j < k → OwnLists X (gq ps j) (A j)
  from_ : ∀ j, j < k → ∀ y, InLists (gq ps j) (A j) y → B ≤ y
  each : ∀ i j, i < k → j < k → i ≠ j → ∀ y, InLists (gq ps i) (A i) y → ¬ InLists (gq ps j) (A j) y
theorem MidParts.done {X : World} {B : Nat} {a : Option Addr} {ps : List Part} {A : Nat → Nat → Option Addr} {C : Nat → Nat → Nat} {m : Nat → Nat → Option Addr} {c : Nat → Nat → Nat} (h : MidParts X B a ps ps.length A C m c) (hB : ∀ y, InSlot a ps.length y → y < B) : OwnParts X a ps A C := by
  refine ⟨h.row.congr (fun k hk j hj => by unfold mixP; rw [if_pos hk]), fun k hk c hc => (h.list k hk).list c hc, fun k hk c hc y hy hy' => ?_, fun i c j d hi hc hj hd hij y hy hy' => ?_⟩
  · have := h.from_ k hk y ⟨c, hc, hy⟩
    have := hB y hy'
    omega
  · by_cases e : i = j
    · subst e
      exact (h.list i hi).each c d hc hd (by omega) y hy hy'
    · exact h.each i j hi hj e y ⟨c, hc, hy⟩ ⟨d, hd, hy'⟩
theorem MidParts.lt {X : World} {B : Nat} {a : Option Addr} {ps : List Part} {k : Nat} {A : Nat → Nat → Option Addr} {C : Nat → Nat → Nat} {m : Nat → Nat → Option Addr} {c : Nat → Nat → Nat} (h : MidParts X B a ps k A C m c) {j : Nat} (hj : j < k) {y : Nat} (hy : InLists (gq ps j) (A j) y) : y < X.heap.size := (h.list j hj).lt hy
theorem MidParts.next {X w4 : World} {B b1 : Nat} {ps : List Part} {k : Nat} {A : Nat → Nat → Option Addr} {C : Nat → Nat → Nat} {m : Nat → Nat → Option Addr} {c : Nat → Nat → Nat} {A' : Nat → Option Addr} {C' : Nat → Nat} (h : MidParts X B (some ⟨b1, 0, none⟩) ps k A C m c) (hk : k < ps.length) (hb : Below X.heap.size X w4) (hB : b1 < B) (hBX : B ≤ X.heap.size)
    (ho : OwnLists w4 (gq ps k) A') (hlo : ∀ y, InLists (gq ps k) A' y → X.heap.size ≤ y) :
    MidParts ((((((w4.setCell ⟨b1, k * 7, none⟩ (.int .i64 (gq ps k).want.number)).setCell ⟨b1, k * 7 + 1, none⟩ (.int .i64 (gq ps k).want.kind)).setCell ⟨b1, k * 7 + 2, none⟩ (.slice (A' 0) (gq ps k).want.stuffs.length (C' 0))).setCell ⟨b1, k * 7 + 3, none⟩ (.slice (A' 1) (gq ps k).want.uses.length (C' 1))).setCell ⟨b1, k * 7 + 4, none⟩ (.slice (A' 2) (gq ps k).want.opens.length (C' 2))).setCell ⟨b1, k * 7 + 5, none⟩ (.slice (A' 3) (gq ps k).want.shuts.length (C' 3)))
      B (some ⟨b1, 0, none⟩) ps (k + 1) (fun j => if j = k then A' else A j) (fun j => if j = k then C' else C j) m c := by
  have on : ∀ (W : World) (i : Nat) (v : Value), Only (fun y => y = b1) W (W.setCell ⟨b1, i, none⟩ v) := fun W i v => Only.cell W ⟨b1, i, none⟩ v
  have on6 := (((((on w4 (k * 7) (.int .i64 (gq ps k).want.number)).trans (on _ (k * 7 + 1) (.int .i64 (gq ps k).want.kind))).trans (on _ (k * 7 + 2) (.slice (A' 0) (gq ps k).want.stuffs.length (C' 0)))).trans (on _ (k * 7 + 3) (.slice (A' 1) (gq ps k).want.uses.length (C' 1)))).trans (on _ (k * 7 + 4) (.slice (A' 2) (gq ps k).want.opens.length (C' 2)))).trans (on _ (k * 7 + 5) (.slice (A' 3) (gq ps k).want.shuts.length (C' 3)))
  refine ⟨?_, fun j hj => ?_, fun j hj y hy => ?_, fun i j hi hj hij y hy hy' => ?_⟩
  · refine (((((((h.row.later hb).setAt hk (by omega : 0 < 7) (.int .i64 (gq ps k).want.number)).setAt hk (by omega : 1 < 7) (.int .i64 (gq ps k).want.kind)).setAt hk (by omega : 2 < 7) (.slice (A' 0) (gq ps k).want.stuffs.length (C' 0))).setAt hk (by omega : 3 < 7) (.slice (A' 1) (gq ps k).want.uses.length (C' 1))).setAt hk (by omega : 4 < 7) (.slice (A' 2) (gq ps k).want.opens.length (C' 2))).setAt hk (by omega : 5 < 7) (.slice (A' 3) (gq ps k).want.shuts.length (C' 3))).congr fun k' hk' j' hj' => ?_
    by_cases e : k' = k
    · subst e
      unfold mixP
      rw [if_pos (show k' < k' + 1 by omega)]
      match j', hj' with
      | 0, _ => simp [partCell]
      | 1, _ => simp [partCell]
      | 2, _ => simp [partCell]
      | 3, _ => simp [partCell]
      | 4, _ => simp [partCell]
      | 5, _ => simp [partCell]
      | 6, _ => simp [partCell]
    · simp only [e, false_and, if_false]
      unfold mixP
      by_cases e2 : k' < k
      · rw [if_pos e2, if_pos (by omega)]
        simp only [if_neg e]
      · rw [if_neg e2, if_neg (by omega)]
  · by_cases e : j = k
    · subst e
      simp only [if_true]
      exact ho.only on6 (fun y hy e => by have := hlo y hy; have e' : y = b1 := e; omega)
    · simp only [if_neg e]
      exact ((h.list j (by omega)).later hb).only on6 (fun y hy e => by have := h.from_ j (by omega) y hy; have e' : y = b1 := e; omega)
  · by_cases e : j = k
    · subst e
      simp only [if_true] at hy
      exact Nat.le_trans hBX (hlo y hy)
    · simp only [if_neg e] at hy
      exact h.from_ j (by omega) y hy
  · by_cases e : i = k
    · subst e
      have e2 : ¬ j = i := fun h => hij h.symm
      simp only [if_true] at hy
      simp only [if_neg e2] at hy'
      have := hlo y hy
      have := h.lt (by omega) hy'
      omega
    · simp only [if_neg e] at hy
      by_cases e2 : j = k
      · subst e2
        simp only [if_true] at hy'
        have := hlo y hy'
        have := h.lt (by omega) hy
        omega
      · simp only [if_neg e2] at hy'
        exact h.each i j (by omega) (by omega) hij y hy hy'

end Go.Proofs.YtfmhkicncgccjaaGreatDoor
