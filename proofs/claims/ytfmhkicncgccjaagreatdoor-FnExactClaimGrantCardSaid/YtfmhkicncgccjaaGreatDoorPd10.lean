/- Joined: CdJ, CdK, CdI5, CdI6, CdL, CdM. -/
import Derived.Test.YtfmhkicncgccjaaGreatDoorPd06
import Derived.Test.YtfmhkicncgccjaaGreatDoorPd08
import Derived.Lib.SlicesCompact
import Derived.Sort.Walk0
import Derived.Test.YtfmhkicncgccjaaGreatDoorShelfA
import Derived.OwnWalk
import Derived.Test.YtfmhkicncgccjaaGreatDoorPd09
import Derived.Test.YtfmhkicncgccjaaGreatDoorPd07
import Derived.Test.YtfmhkicncgccjaaGreatDoorShelfB
import Derived.Lib.OwnBridge
import Derived.Sort.OwnSorted
/- How many different names two ascending lists have: counted, and by sorting and compacting. -/
namespace Go.Proofs.YtfmhkicncgccjaaGreatDoor
open Go.RowKit Go.Sort
set_option linter.unusedSimpArgs false
set_option linter.unusedVariables false

def leL (a b : List UInt8) : Bool := decide (a ≤ b)

theorem compactUpTo_sorted (d : Array (List UInt8)) (hs : ∀ i j, i ≤ j → j < d.size → d[i]! ≤ d[j]!) : ∀ m, m ≤ d.size → (Lib.compactUpTo d m).Nodup ∧ ∀ a, a ∈ Lib.compactUpTo d m ↔ ∃ j, j < m ∧ d[j]! = a
  | 0, _ => ⟨by simp [Lib.compactUpTo], fun a => by simp [Lib.compactUpTo]⟩
  | m + 1, hm => by
    obtain ⟨h1, h2⟩ := compactUpTo_sorted d hs m (by omega)
    rw [Lib.compactUpTo_succ]
    by_cases hk : Lib.keeps d m = true
    · rw [hk]
      simp only [if_true]
      have hne : m = 0 ∨ d[m]! ≠ d[m - 1]! := by simpa [Lib.keeps] using hk
      constructor
      · rw [List.nodup_append]
        refine ⟨h1, by simp, fun a ha b hb => ?_⟩
        obtain ⟨j, hj, rfl⟩ := (h2 a).1 ha
        simp at hb
        subst hb
        intro e
        rcases hne with h0 | hne
        · omega
        · refine hne (List.le_antisymm ?_ (hs (m - 1) m (by omega) (by omega)))
          rw [← e]
          exact hs j (m - 1) (by omega) (by omega)
      · intro a
        rw [List.mem_append, h2]
        constructor
        · rintro (⟨j, hj, rfl⟩ | h)
          · exact ⟨j, by omega, rfl⟩
          · simp at h; exact ⟨m, by omega, h.symm⟩
        · rintro ⟨j, hj, rfl⟩
          by_cases e : j = m
          · subst e; exact Or.inr (by simp)
          · exact Or.inl ⟨j, by omega, rfl⟩
    · have hk' : Lib.keeps d m = false := by simpa using hk
      rw [hk']
      simp only [Bool.false_eq_true, if_false, List.append_nil]
      have he : m ≠ 0 ∧ d[m]! = d[m - 1]! := by simpa [Lib.keeps] using hk'
      refine ⟨h1, fun a => ?_⟩
      rw [h2]
      constructor
      · rintro ⟨j, hj, rfl⟩; exact ⟨j, by omega, rfl⟩
      · rintro ⟨j, hj, rfl⟩
        by_cases e : j = m
        · subst e; exact ⟨j - 1, by omega, he.2.symm⟩
        · exact ⟨j, by omega, rfl⟩

theorem compact_sorted (zs : List (List UInt8)) (hs : zs.Pairwise (fun a b => leL a b = true)) : (Lib.compact zs).Nodup ∧ ∀ a, a ∈ Lib.compact zs ↔ a ∈ zs := by
  have h := compactUpTo_sorted zs.toArray (fun i j hij hj => by
    have hj' : j < zs.length := by simpa using hj
    have hi' : i < zs.length := by omega
    have e1 : zs.toArray[i]! = zs[i] := by simp [hi']
    have e2 : zs.toArray[j]! = zs[j] := by simp [hj']
    rw [e1, e2]
    by_cases e : i = j
    · subst e; exact List.le_refl _
    · have := List.pairwise_iff_getElem.1 hs i j hi' hj' (by omega)
      simpa [leL] using this) zs.length (by simp)
  refine ⟨h.1, fun a => ?_⟩
  show a ∈ Lib.compactUpTo zs.toArray zs.length ↔ _
  rw [h.2, List.mem_iff_getElem]
  constructor
  · rintro ⟨j, hj, rfl⟩; exact ⟨j, hj, by simp [hj]⟩
  · rintro ⟨j, hj, rfl⟩; exact ⟨j, hj, by simp [hj]⟩

def textOf (s : ByteArray) : List UInt8 := s.data.toList
theorem textOf_inj {s t : ByteArray} (h : textOf s = textOf t) : s = t := by
  cases s; cases t
  simp only [textOf, Array.toList_inj] at h
  rw [h]

theorem ltS_iff {s t : ByteArray} : ltS s t = true ↔ textOf s < textOf t := by
  unfold ltS
  rw [toList_is, toList_is, bytesLess_eq]
  simp [textOf]

/-- Ascending names are all different. -/
theorem names_nodup {ss : List ByteArray} (h : ∀ k, 0 < k → k < ss.length → ltS (gs ss (k - 1)) (gs ss k) = true) : ss.Nodup := by
  have key : ∀ (j i : Nat), i < j → j < ss.length → textOf (gs ss i) < textOf (gs ss j) := by
    intro j
    induction j with
    | zero => intro i hi; omega
    | succ j ih =>
      intro i hi hj
      have h1 := ltS_iff.1 (h (j + 1) (by omega) hj)
      simp only [Nat.add_sub_cancel] at h1
      by_cases e : i = j
      · subst e; exact h1
      · exact List.lt_trans (ih i (by omega) (by omega)) h1
  rw [List.nodup_iff_pairwise_ne, List.pairwise_iff_getElem]
  intro i j hi hj hij e
  have := key j i hij hj
  rw [gs_lt hi, gs_lt hj, e] at this
  exact List.lt_irrefl _ this

theorem namesB_nodup {ss : List ByteArray} {n : Int} (h : namesB ss n = true) : ss.Nodup := by
  unfold namesB at h
  rw [Bool.and_eq_true] at h
  refine names_nodup fun k hk hlt => ?_
  have := allTo_iff.1 h.2 k hlt
  unfold nameAtB at this
  rw [Bool.and_eq_true, Bool.or_eq_true] at this
  rcases this.2 with h0 | h0
  · simp at h0; omega
  · exact h0

theorem countTo_filter (ss : List ByteArray) (p : ByteArray → Bool) : countTo ss.length (fun i => p (gs ss i)) = (ss.filter p).length := by
  have : ∀ n, n ≤ ss.length → countTo n (fun i => p (gs ss i)) = ((ss.take n).filter p).length := by
    intro n
    induction n with
    | zero => intro _; simp [countTo]
    | succ n ih =>
      intro hn
      rw [List.take_add_one, List.filter_append, List.length_append, ← ih (by omega)]
      have : ss[n]? = some (gs ss n) := by rw [gs_lt (by omega), List.getElem?_eq_getElem]
      rw [this]
      show countTo n (fun i => p (gs ss i)) + (if p (gs ss n) then 1 else 0) = _
      cases hp : p (gs ss n) <;> simp [hp]
  rw [this ss.length (Nat.le_refl _), List.take_length]

/-- The number of different names. -/
theorem union_same {a b : List ByteArray} (ha : a.Nodup) (hb : b.Nodup) : (Lib.compact (((a ++ b).map textOf).mergeSort leL)).length = unionN a b := by
  have hsort : (((a ++ b).map textOf).mergeSort leL).Pairwise (fun x y => leL x y = true) := List.pairwise_mergeSort (fun x y z h1 h2 => by simp only [leL, decide_eq_true_eq] at *; exact List.le_trans h1 h2) (fun x y => by simp only [leL, Bool.or_eq_true, decide_eq_true_eq]; exact List.le_total x y) _
  obtain ⟨h1, h2⟩ := compact_sorted _ hsort
  have hn : ((a ++ b.filter (fun s => !hasB a s)).map textOf).Nodup := by
    rw [List.nodup_iff_pairwise_ne, List.pairwise_map]
    refine List.Pairwise.imp (R := fun s t => s ≠ t) (fun h e => h (textOf_inj e)) ?_
    rw [← List.nodup_iff_pairwise_ne]
    rw [List.nodup_append]
    refine ⟨ha, List.Pairwise.filter _ hb, fun s hs t ht e => ?_⟩
    subst e
    rw [List.mem_filter] at ht
    have : hasB a s = true := by
      rw [hasB_iff]
      obtain ⟨i, hi, e⟩ := List.mem_iff_getElem.1 hs
      exact ⟨i, hi, by rw [gs_lt hi]; exact e⟩
    rw [this] at ht
    exact absurd ht.2 (by decide)
  have hperm : (Lib.compact (((a ++ b).map textOf).mergeSort leL)).Perm ((a ++ b.filter (fun s => !hasB a s)).map textOf) := by
    rw [List.perm_ext_iff_of_nodup h1 hn]
    intro t
    rw [h2, (List.mergeSort_perm _ _).mem_iff, List.mem_map, List.mem_map]
    constructor
    · rintro ⟨s, hs, rfl⟩
      refine ⟨s, ?_, rfl⟩
      rw [List.mem_append] at hs ⊢
      rcases hs with hs | hs
      · exact Or.inl hs
      · cases hq : hasB a s with
        | true =>
          obtain ⟨i, hi, e⟩ := hasB_iff.1 hq
          exact Or.inl (by rw [← e]; exact gs_mem hi)
        | false => exact Or.inr (List.mem_filter.2 ⟨hs, by rw [hq]; rfl⟩)
    · rintro ⟨s, hs, rfl⟩
      refine ⟨s, ?_, rfl⟩
      rw [List.mem_append] at hs ⊢
      rcases hs with hs | hs
      · exact Or.inl hs
      · exact Or.inr (List.mem_filter.1 hs).1
  rw [hperm.length_eq, List.length_map, List.length_append]
  unfold unionN
  rw [countTo_filter b (fun s => !hasB a s)]

end Go.Proofs.YtfmhkicncgccjaaGreatDoor

/- What slices.Grow and slices.Concat answer of lists of texts. -/
namespace Go.Proofs.YtfmhkicncgccjaaGreatDoor
open Go.RowKit Go.Sort
set_option linter.unusedSimpArgs false
set_option linter.unusedVariables false

theorem grow_any (n : Nat) (hn : 0 < n) (hn2 : n ≤ 1000) (w : World) :
    Calls Tryz.prog 164 #[.slice none 0 0, .int .i64 n] w fun e w' => (∃ cap, e = .returned (.slice (some ⟨w.heap.size, 0, none⟩) 0 cap) ∧ w'.ownsRow w.heap.size 9 1 (.slice (some ⟨w.heap.size, 0, none⟩) 0 cap) 0 []) ∧ Below w.heap.size w w' := by
  obtain ⟨t0, hi, hz0, hz1, hz2⟩ := info_parts info9
  have h := Any8.slices_Grow_grow Tryz.laysGrow t0 (.string .empty) hi hz0 (by rw [hz1]; decide) none 0 0 n [] w (Nat.le_refl _) (by omega) (by rw [hz2]; omega) (by omega) (by simp) (fun _ => rfl) (fun a ha => by cases ha)
  refine Calls.mono h ?_
  rintro e w' ⟨rfl, rfl⟩
  have hg := grownCap_ge w (0 + n) 0 9
  have hm := grownCap_le_maxLen w (0 + n) 0 9 (by unfold maxLen; omega)
  refine ⟨⟨grownCap w (0 + n) 0 9, rfl, rfl, Or.inr ⟨w.heap.size, _, _, rfl, Nat.le_refl _, Go.Deep.blk_alloc_new _ _, Nat.zero_le _, hm, ?_, by simp⟩⟩, (Below.refl _ _).drew.alloc (Nat.le_refl _) _⟩
  have hzc : (Value.string ByteArray.empty).cells.size = 1 := rfl
  simp only [Array.size_append, size_zeroCells, hzc]
  simp only [List.size_toArray, List.length_nil]
  show 0 + (0 + n - 0) * 1 + (grownCap w (0 + n) 0 9 - (0 + n)) * 1 = grownCap w (0 + n) 0 9 * 1
  omega

/-- The texts of a list, as values, lie at a slice that is not nil. -/
theorem StrsAt.news {w : World} {ad : Addr} {ss : List ByteArray} (h : StrsAt w (some ad) ss) : ∀ j u, (ss.map Value.string)[j]? = some u → w.cell? (ad.add j) = some u := by
  intro j u hu
  rw [List.getElem?_map, Option.map_eq_some_iff] at hu
  obtain ⟨s, hs, rfl⟩ := hu
  obtain ⟨hj, hs'⟩ := List.getElem?_eq_some_iff.1 hs
  obtain ⟨b, o, ha, hb, hc⟩ := h.at hj
  cases ha
  rw [gs_lt hj, hs'] at hc
  rw [Addr.add_lit]
  exact hc

set_option maxRecDepth 100000 in
set_option maxHeartbeats 4000000 in
theorem concat_any (p : Nat) (a : Option Addr) (bd : Addr) (ca cb : Nat) (xs ys : List ByteArray) (w : World) (h0 : w.cell? ⟨p, 0, none⟩ = some (.slice a xs.length ca)) (h1 : w.cell? ⟨p, 1, none⟩ = some (.slice (some bd) ys.length cb)) (hx : StrsAt w a xs) (hy : StrsAt w (some bd) ys) (lx : xs.length ≤ 100) (ly : ys.length ≤ 100) (hpos : 0 < ys.length) :
    Calls Tryz.prog 138 #[.slice (some ⟨p, 0, none⟩) 2 2] w fun e w' => (∃ v, e = .returned v ∧ w'.ownsRow w.heap.size 9 1 v (xs.length + ys.length) ((xs ++ ys).map Value.string)) ∧ Below w.heap.size w w' := by
  obtain ⟨t0, hi, hz0, hz1, hz2⟩ := info_parts info9
  have hw1 : wrap64 (xs.length : Int) = xs.length := by unfold wrap64; omega
  have hw2 : wrap64 ((xs.length : Int) + ys.length) = (xs.length : Int) + ys.length := by unfold wrap64; omega
  go_enter Tryz.func138, Tryz.ntmps138
  go_wp2
  refine wp_loop_rounds 3 ?_
  rw [rounds_succ]
  go_wp2
  rw [rounds_succ]
  go_wp2
  rw [rounds_succ]
  go_wp2_with fail
  have hgr := grow_any (xs.length + ys.length) (by omega) (by omega) w
  rw [Int.natCast_add] at hgr
  refine hgr.mono ?_
  rintro e w1 ⟨⟨cap, rfl, hown⟩, hb1⟩
  clear hgr
  have g0 := cell_later hb1 h0
  have g1 := cell_later hb1 h1
  have hx1 := hx.later hb1
  have hy1 := hy.later hb1
  clear hw1 hw2
  cases a with
  | some ad =>
    go_wp2
    refine wp_loop_rounds 3 ?_
    rw [rounds_succ]
    go_wp2_with (first
      | (at_builtin; refine wpList_append_own _ rfl _ _ 24 rfl w.heap.size 9 t0 (.string .empty) 1 16 Tryz.underlying24 hi hz0 hz1 hz2 rfl (by decide) _ _ _ rfl hown ad xs.length ca (xs.map Value.string) rfl (by simp) hx1.news ?c2 ?c3 ?c4 ?c5 ?_)
      | go_in)
    case c2 => intro u hu; simp at hu; obtain ⟨_, _, rfl⟩ := hu; rfl
    case c3 => unfold maxLen; omega
    case c4 => omega
    case c5 => exact hb1.size
    intro v2 w2 hown2 hgrow2 _
    have hb2 := hb1.grown hgrow2 hb1.size (fun g hg => by simp [Value.ownBlock] at hg; omega)
    have g1' := cell_later hb2 h1
    have hy2 := hy.later hb2
    clear g0 g1 hown hgrow2 hx1 hy1
    go_wp2
    rw [rounds_succ]
    go_wp2_with (first
      | (at_builtin; refine wpList_append_own _ rfl _ _ 24 rfl w.heap.size 9 t0 (.string .empty) 1 16 Tryz.underlying24 hi hz0 hz1 hz2 rfl (by decide) _ _ _ rfl hown2 bd ys.length cb (ys.map Value.string) rfl (by simp) hy2.news ?c2 ?c3 ?c4 ?c5 ?_)
      | go_in)
    case c2 => intro u hu; simp at hu; obtain ⟨_, _, rfl⟩ := hu; rfl
    case c3 => unfold maxLen; omega
    case c4 => omega
    case c5 => exact hb2.size
    intro v3 w3 hown3 hgrow3 _
    have hb3 := hb2.grown hgrow3 hb2.size (fun g hg => (hown2.lt g hg).1)
    go_wp2
    rw [rounds_succ]
    go_wp2
    go_ret
    exact ⟨⟨_, rfl, by simpa using hown3⟩, hb3⟩
  | none =>
    have hx0 : xs = [] := by
      cases xs with
      | nil => rfl
      | cons s r => obtain ⟨_, _, h, _⟩ := hx.at (k := 0) (by simp); cases h
    subst hx0
    have hnone : ∀ ty, (Builtin.append_ #[24, 24] ty #[.slice (some ⟨w.heap.size, 0, none⟩) 0 cap, .slice none 0 ca]).run Tryz.prog w1 = .ok (.slice (some ⟨w.heap.size, 0, none⟩) 0 cap) w1 := fun ty => by
      simp [Builtin.append_, run_underlying Tryz.underlying24, sizeOf, typeInfo, hi, Builtin.lenOf, Builtin.firstCells, storeCells]
    go_wp2
    refine wp_loop_rounds 3 ?_
    rw [rounds_succ]
    go_wp2
    rw [rounds_succ]
    go_wp2_with (first
      | (at_builtin; refine wpList_append_own _ rfl _ _ 24 rfl w.heap.size 9 t0 (.string .empty) 1 16 Tryz.underlying24 hi hz0 hz1 hz2 rfl (by decide) _ _ _ rfl hown bd ys.length cb (ys.map Value.string) rfl (by simp) hy1.news ?c2 ?c3 ?c4 ?c5 ?_)
      | go_in)
    case c2 => intro u hu; simp at hu; obtain ⟨_, _, rfl⟩ := hu; rfl
    case c3 => unfold maxLen; omega
    case c4 => omega
    case c5 => exact hb1.size
    intro v3 w3 hown3 hgrow3 _
    have hb3 := hb1.grown hgrow3 hb1.size (fun g hg => by simp [Value.ownBlock] at hg; omega)
    go_wp2
    rw [rounds_succ]
    go_wp2
    go_ret
    exact ⟨⟨_, rfl, by simpa using hown3⟩, hb3⟩

end Go.Proofs.YtfmhkicncgccjaaGreatDoor

/- What the program's lookAtAmount answers. -/
namespace Go.Proofs.YtfmhkicncgccjaaGreatDoor
open Go.RowKit Go.Sort
set_option linter.unusedSimpArgs false
set_option linter.unusedVariables false

/-- A place that a want uses. -/
def placeV (fs : List Foe) (af : Option Addr) (cf : Nat) (s : Spot) (m : Option Addr) (c : Nat) (y : Want) (a2 a3 a4 a5 : Option Addr) (c2 c3 c4 c5 : Nat) (u : Use) : Value :=
  .agg #[.slice af fs.length cf, .string s.name, .int .i64 s.cap, .int .i64 s.least, .int .i64 s.most, .slice m s.may.length c, .int .i64 y.number, .int .i64 y.kind, .slice a2 y.stuffs.length c2, .slice a3 y.uses.length c3, .slice a4 y.opens.length c4, .slice a5 y.shuts.length c5, .string u.name, .int .i64 u.role, .int .i64 u.amount]

/-- What the look at a place's amounts finds. -/
def amtW (s : Spot) (y : Want) (u : Use) : Value :=
  if u.role == 1 then whyV (decide (s.least < u.amount)) 9 else if u.role == 2 then whyV (decide (s.cap < s.most + u.amount)) 10 else whyV (y.kind == 2 && decide (0 < s.most)) 11

set_option maxRecDepth 100000 in
set_option maxHeartbeats 4000000 in
theorem lookAtAmount_any (fs : List Foe) (af : Option Addr) (cf : Nat) (s : Spot) (m : Option Addr) (c : Nat) (y : Want) (a2 a3 a4 a5 : Option Addr) (c2 c3 c4 c5 : Nat) (u : Use) (w : World) (g1 : 0 ≤ s.most) (g2 : s.most ≤ 1000) (g3 : 0 ≤ u.amount) (g4 : u.amount ≤ 1000) :
    Calls Tryz.prog 136 #[placeV fs af cf s m c y a2 a3 a4 a5 c2 c3 c4 c5 u] w fun e w' => e = .returned (amtW s y u) ∧ Below w.heap.size w w' := by
  unfold placeV
  have b0 : Below w.heap.size w (w.alloc (.cells #[.slice af fs.length cf, .string s.name, .int .i64 s.cap, .int .i64 s.least, .int .i64 s.most, .slice m s.may.length c, .int .i64 y.number, .int .i64 y.kind, .slice a2 y.stuffs.length c2, .slice a3 y.uses.length c3, .slice a4 y.opens.length c4, .slice a5 y.shuts.length c5, .string u.name, .int .i64 u.role, .int .i64 u.amount] 181)) := (Below.refl _ _).alloc (Nat.le_refl _) _
  cases r1 : u.role == 1 with
  | true =>
    go_enter Tryz.func136, Tryz.ntmps136
    go_wp2_with fail
    refine (reasonIf_any (decide (s.least < u.amount)) 9 _).mono ?_
    rintro e w1 ⟨rfl, rfl⟩
    go_wp2
    go_ret
    exact ⟨by unfold amtW; rw [r1]; rfl, b0⟩
  | false =>
  cases r2 : u.role == 2 with
  | true =>
    go_enter Tryz.func136, Tryz.ntmps136
    go_wp2_with fail
    refine (reasonIf_any (decide (s.cap < s.most + u.amount)) 10 _).mono ?_
    rintro e w1 ⟨rfl, rfl⟩
    go_wp2
    go_ret
    exact ⟨by unfold amtW; rw [r1, r2]; rfl, b0⟩
  | false =>
  cases k2 : y.kind == 2 with
  | true =>
    go_enter Tryz.func136, Tryz.ntmps136
    go_wp2_with fail
    refine (reasonIf_any (decide (0 < s.most)) 11 _).mono ?_
    rintro e w1 ⟨rfl, rfl⟩
    go_wp2
    go_ret
    exact ⟨by unfold amtW; rw [r1, r2, k2]; rfl, b0⟩
  | false =>
    go_enter Tryz.func136, Tryz.ntmps136
    go_wp2_with fail
    refine (reasonIf_any false 11 _).mono ?_
    rintro e w1 ⟨rfl, rfl⟩
    go_wp2
    go_ret
    exact ⟨by unfold amtW; rw [r1, r2, k2]; rfl, b0⟩

end Go.Proofs.YtfmhkicncgccjaaGreatDoor

/- What the program's anyFoes answers. -/
namespace Go.Proofs.YtfmhkicncgccjaaGreatDoor
open Go.RowKit Go.Sort
set_option linter.unusedSimpArgs false
set_option linter.unusedVariables false

def anyFoesB (fs : List Foe) (xs ys : List ByteArray) : Bool := anyTo xs.length (fun i => anyTo ys.length (fun j => foesB fs (gs xs i) (gs ys j)))

set_option maxHeartbeats 2000000 in
theorem anyFoes_any (af : Option Addr) (cf : Nat) (fs : List Foe) (a b : Option Addr) (ca cb : Nat) (xs ys : List ByteArray) (w : World) (hm : FoesAt w af fs) (hl : fs.length ≤ maxLen) (hx : StrsAt w a xs) (hy : StrsAt w b ys) (lx : xs.length ≤ maxLen) (ly : ys.length ≤ maxLen) :
    Calls Tryz.prog 159 #[.slice af fs.length cf, .slice a xs.length ca, .slice b ys.length cb] w fun e w' => e = .returned (.bool (anyFoesB fs xs ys)) ∧ Below w.heap.size w w' := by
  unfold maxLen at lx ly
  go_enter Tryz.func159, Tryz.ntmps159
  go_wp2
  go_loopw [8, 10, 13] (fun _ _ i wr => ∃ (k : Nat), k ≤ xs.length ∧ i = .int .i64 k ∧ allTo k (fun i => !anyTo ys.length (fun j => foesB fs (gs xs i) (gs ys j))) = true ∧ Below w.heap.size w wr) (fun _ _ i _ => xs.length - (intOf i).toNat)
  case atStart => exact ⟨0, Nat.zero_le _, rfl, rfl, Below.refl _ _⟩
  case round wr =>
    obtain ⟨k, hk, rfl, hall, hbel⟩ := hrel
    by_cases hlt : k < xs.length
    · obtain ⟨b1, o, ha, hb, hc⟩ := (hx.later hbel).at hlt
      subst ha
      go_wp2
      go_loopw [10, 19] (fun _ i wv => ∃ (j : Nat) (w2 : World), w2 = wv ∧ j ≤ ys.length ∧ i = .int .i64 j ∧ allTo j (fun j => !foesB fs (gs xs k) (gs ys j)) = true ∧ Below wr.heap.size wr w2) (fun _ i _ => ys.length - (intOf i).toNat)
      case atStart => exact ⟨0, _, rfl, Nat.zero_le _, rfl, rfl, Below.refl _ _⟩
      case round =>
        obtain ⟨j, w2, rfl, hj, rfl, hallj, hb2⟩ := hrel
        have hbw2 := hbel.trans (hb2.mono hbel.size)
        by_cases hj2 : j < ys.length
        · obtain ⟨b3, o3, ha3, hb3, hc3⟩ := (hy.later hbw2).at hj2
          subst ha3
          go_wp2_with fail
          refine (areFoes_any af cf fs (gs xs k) (gs ys j) _ (hm.later hbw2) hl).mono ?_
          rintro e w3 ⟨rfl, hb4⟩
          have hb5 := hb2.trans (hb4.mono hb2.size)
          cases hq : foesB fs (gs xs k) (gs ys j) with
          | true =>
            go_wp2
            go_ret
            exact ⟨ret_bool (anyTo_true k hlt (anyTo_true j hj2 hq)).symm, hbel.trans (hb5.mono hbel.size)⟩
          | false =>
            go_wp2
            go_roundw
            case rel => exact ⟨j + 1, _, rfl, by omega, by go_num, allTo_succ hallj (by rw [hq]; rfl), hb5⟩
            case measure => simp [intOf]; omega
        · have hjj : j = ys.length := by omega
          subst hjj
          have HI : Hid (anyTo ys.length (fun j => foesB fs (gs xs k) (gs ys j)) = false) := anyTo_none hallj
          clear hallj hj2
          go_wp2
          go_roundw
          case rel => exact ⟨k + 1, by omega, by go_num, allTo_succ hall (by rw [HI.out]; rfl), hbw2⟩
          case measure => simp [intOf]; omega
    · go_wp2
      go_ret
      have : k = xs.length := by omega
      subst this
      exact ⟨ret_bool (anyTo_none hall).symm, hbel⟩

end Go.Proofs.YtfmhkicncgccjaaGreatDoor

/- What the program's joined answers: the different texts of two lists, in order. -/
namespace Go.Proofs.YtfmhkicncgccjaaGreatDoor
open Go.RowKit Go.Sort Go.Shelf
set_option linter.unusedSimpArgs false
set_option linter.unusedVariables false

theorem string_enc (s : ByteArray) : Value.string s = encStr (textOf s) := by
  cases s; simp [encStr, textOf]
theorem map_enc (ss : List ByteArray) : ss.map Value.string = (ss.map textOf).map encStr := by
  rw [List.map_map]; exact List.map_congr_left fun s _ => string_enc s

/-- The different texts of two lists, in order. -/
def joinL (a b : List ByteArray) : List (List UInt8) := Lib.compact (((a ++ b).map textOf).mergeSort leL)

theorem sort_any (g cap : Nat) (zs : List (List UInt8)) (w : World) (hH : Holds encStr w g 0 zs.toArray) (hg : g < w.heap.size) (hz : zs.length ≤ 1000) :
    Calls Tryz.prog 139 #[.slice (some ⟨g, 0, none⟩) zs.length cap] w fun e w' => e = .returned (.tuple #[]) ∧ ∃ n os, w' = grow (putRow encStr (Sort.ahead w n) g 0 (zs.mergeSort leL).toArray) os :=
  Any.slices_Sort_string Tryz.laysSort g 0 cap zs w hH hg (by omega)
theorem compact_any (g cap : Nat) (zs : List (List UInt8)) (w : World) (hH : Holds encStr w g 0 zs.toArray) (hz : zs.length ≤ 1000) (hcap : zs.length ≤ cap) :
    Calls Tryz.prog 140 #[.slice (some ⟨g, 0, none⟩) zs.length cap] w fun e w' => e = .returned (.slice (some ⟨g, 0, none⟩) (Lib.compact zs).length cap) ∧ ∃ q, w' = putRow encStr (Sort.ahead w q) g 0 (Lib.compact zs ++ List.replicate (zs.length - (Lib.compact zs).length) []).toArray :=
  Any.slices_Compact_string Tryz.laysCompact g 0 cap zs w hH (by omega) hcap

/-- From what Sort and Compact leave to the row that the result owns. -/
theorem left_of {w w1 : World} {g cap n nn q : Nat} {os : Array Obj} {ss : List (List UInt8)} (hown : w1.ownsRow w.heap.size 9 1 (.slice (some ⟨g, 0, none⟩) n cap) n (ss.map encStr)) (hbel : Below w.heap.size w w1) (hbg : w.heap.size ≤ g) (hlen : ss.length = n) :
    (putRow encStr (Sort.ahead (grow (putRow encStr (Sort.ahead w1 nn) g 0 (ss.mergeSort leL).toArray) os) q) g 0 (Lib.compact (ss.mergeSort leL) ++ List.replicate (n - (Lib.compact (ss.mergeSort leL)).length) []).toArray).ownsRow w.heap.size 9 1 (.slice (some ⟨g, 0, none⟩) (Lib.compact (ss.mergeSort leL)).length cap) (Lib.compact (ss.mergeSort leL)).length ((Lib.compact (ss.mergeSort leL)).map encStr) ∧
    Below w.heap.size w (putRow encStr (Sort.ahead (grow (putRow encStr (Sort.ahead w1 nn) g 0 (ss.mergeSort leL).toArray) os) q) g 0 (Lib.compact (ss.mergeSort leL) ++ List.replicate (n - (Lib.compact (ss.mergeSort leL)).length) []).toArray) := by
  have hl2 : (ss.mergeSort leL).length = ss.length := List.length_mergeSort ss
  have hle := Lib.compact_length_le (ss.mergeSort leL)
  subst hlen
  rcases hown.2 with ⟨h0, _⟩ | ⟨g', cap', cur, hv, hbase, hb, k1, k2, k3, k4⟩
  · cases h0
  cases hv
  have hs := ownsRow_sorted (n := nn) (os := os) (ts := ss.mergeSort leL) hl2 hbase hb k1 k2 k3
  have hc := Lib.ownsRow_putRow (q := q) (k := (Lib.compact (ss.mergeSort leL)).length) (ys := Lib.compact (ss.mergeSort leL) ++ List.replicate (ss.length - (Lib.compact (ss.mergeSort leL)).length) []) hs (by simp; omega) (by omega)
  rw [List.take_left] at hc
  exact ⟨hc, Lib.below_putRow (hbel.grown (grownBy_sorted _) hbel.size (fun j hj => by cases hj; exact hbase)) hbg⟩

set_option maxRecDepth 100000 in
set_option maxHeartbeats 4000000 in
theorem joined_any (a : Option Addr) (bd : Addr) (ca cb : Nat) (xs ys : List ByteArray) (w : World) (hx : StrsAt w a xs) (hy : StrsAt w (some bd) ys) (lx : xs.length ≤ 100) (ly : ys.length ≤ 100) (hpos : 0 < ys.length) :
    Calls Tryz.prog 116 #[.slice a xs.length ca, .slice (some bd) ys.length cb] w fun e w' => (∃ g cap, e = .returned (.slice (some ⟨g, 0, none⟩) (joinL xs ys).length cap) ∧ w'.ownsRow w.heap.size 9 1 (.slice (some ⟨g, 0, none⟩) (joinL xs ys).length cap) (joinL xs ys).length ((joinL xs ys).map encStr)) ∧ Below w.heap.size w w' := by
  have b0 : Below w.heap.size w (w.alloc (.cells #[.slice a xs.length ca, .slice (some bd) ys.length cb] 24)) := (Below.refl _ _).alloc (Nat.le_refl _) _
  unfold joinL
  go_enter Tryz.func116, Tryz.ntmps116
  go_wp2_with fail
  refine (concat_any w.heap.size a bd ca cb xs ys _ (by rw [World.cell?_alloc_new]; rfl) (by rw [World.cell?_alloc_new]; rfl) (hx.later b0) (hy.later b0) lx ly hpos).mono ?_
  rintro e w1 ⟨⟨v, rfl, hown0⟩, hb1⟩
  have b1 := b0.trans (hb1.mono b0.size)
  have hown1 : w1.ownsRow w.heap.size 9 1 v (xs.length + ys.length) (((xs ++ ys).map textOf).map encStr) := by
    rw [← map_enc]
    exact ⟨hown0.1, hown0.2.imp id fun ⟨g, cap, cur, h1, h2, h3⟩ => ⟨g, cap, cur, h1, Nat.le_trans (by simp) h2, h3⟩⟩
  have hvn : v ≠ .slice none 0 0 := by
    rintro rfl
    rcases hown1.2 with ⟨_, h⟩ | ⟨_, _, _, h, _⟩
    · omega
    · cases h
  obtain ⟨g, cap, rfl, hbg, hgl, hncap, hcm, hlen, hH⟩ := Lib.holds_of_ownsRow hown1 hvn
  have hsort := sort_any g cap ((xs ++ ys).map textOf) w1 hH hgl (by rw [hlen]; omega)
  rw [hlen] at hsort
  have X : Hid (w1.ownsRow w.heap.size 9 1 (.slice (some ⟨g, 0, none⟩) (xs.length + ys.length) cap) (xs.length + ys.length) (((xs ++ ys).map textOf).map encStr) ∧ Below w.heap.size w w1 ∧ w.heap.size ≤ g ∧ g < w1.heap.size ∧ xs.length + ys.length ≤ cap ∧ ((xs ++ ys).map textOf).length = xs.length + ys.length ∧ Holds encStr w1 g 0 ((xs ++ ys).map textOf).toArray) := ⟨hown1, b1, hbg, hgl, hncap, hlen, hH⟩
  have HLX : Hid (xs.length ≤ 100 ∧ ys.length ≤ 100) := ⟨lx, ly⟩
  clear hown0 hown1 hb1 b1 b0 hH hvn hlen hx hy lx ly hpos hbg hgl hncap hcm
  have HN : Hid (xs.length + ys.length ≤ 200) := (by have := HLX.out; omega : xs.length + ys.length ≤ 200)
  generalize hss : (xs ++ ys).map textOf = ss at X hsort ⊢
  have HSS : Hid ((xs ++ ys).map textOf = ss) := hss
  clear hss
  generalize hn : xs.length + ys.length = n at X hsort HN ⊢
  clear hn HLX
  go_wp2_with fail
  refine hsort.mono ?_
  rintro e w2 ⟨rfl, nn, os, rfl⟩
  clear hsort
  have hl2 : (ss.mergeSort leL).length = n := by rw [List.length_mergeSort]; exact X.out.2.2.2.2.2.1
  have hH2 : Holds encStr (grow (putRow encStr (Sort.ahead w1 nn) g 0 (ss.mergeSort leL).toArray) os) g 0 (ss.mergeSort leL).toArray :=
    holds_grow encStr _ os g 0 _ (by simpa [putRow, mapBlock, Sort.ahead] using X.out.2.2.2.1) (holds_putRow encStr _ g 0 _ _ (holds_ahead encStr w1 nn g 0 _ X.out.2.2.2.2.2.2) (by simp))
  have hcomp := compact_any g cap (ss.mergeSort leL) _ hH2 (by rw [hl2]; have := HN.out; omega) (by rw [hl2]; exact X.out.2.2.2.2.1)
  rw [hl2] at hcomp
  clear hH2 hl2
  generalize hw2 : grow (putRow encStr (Sort.ahead w1 nn) g 0 (ss.mergeSort leL).toArray) os = w2 at hcomp ⊢
  have HW : Hid (grow (putRow encStr (Sort.ahead w1 nn) g 0 (ss.mergeSort leL).toArray) os = w2) := hw2
  clear hw2
  go_wp2_with fail
  refine hcomp.mono ?_
  rintro e w3 ⟨rfl, q, hw3⟩
  clear hcomp
  go_wp2
  go_ret
  have hfin := left_of (nn := nn) (q := q) (os := os) X.out.1 X.out.2.1 X.out.2.2.1 X.out.2.2.2.2.2.1
  rw [HW.out] at hfin
  obtain rfl := HSS.out
  exact ⟨⟨g, cap, rfl, hfin.1⟩, hfin.2⟩

end Go.Proofs.YtfmhkicncgccjaaGreatDoor

/- What the program's lookAtMay answers. -/
namespace Go.Proofs.YtfmhkicncgccjaaGreatDoor
open Go.RowKit Go.Sort
set_option linter.unusedSimpArgs false
set_option linter.unusedVariables false

/-- What the look at what may be left in a place finds. -/
def mayW (fs : List Foe) (s : Spot) (y : Want) (u : Use) : Value :=
  if y.kind == 1 then (if u.role == 2 then (if anyFoesB fs s.may y.stuffs then reasonV 8 else whyV (decide (8 < (joinL s.may y.stuffs).length)) 5) else whyV (!allB s.may y.stuffs) 8) else .nilIface

set_option maxRecDepth 100000 in
set_option maxHeartbeats 4000000 in
theorem lookAtMay_any (fs : List Foe) (af : Option Addr) (cf : Nat) (s : Spot) (m : Option Addr) (c : Nat) (y : Want) (a2 : Addr) (a3 a4 a5 : Option Addr) (c2 c3 c4 c5 : Nat) (u : Use) (w : World) (hfs : FoesAt w af fs) (hfl : fs.length ≤ maxLen) (hs : StrsAt w m s.may) (hy : StrsAt w (some a2) y.stuffs) (ls : s.may.length ≤ 100) (ly : y.stuffs.length ≤ 100) (hpos : y.kind = 1 → 0 < y.stuffs.length) :
    Calls Tryz.prog 135 #[placeV fs af cf s m c y (some a2) a3 a4 a5 c2 c3 c4 c5 u] w fun e w' => e = .returned (mayW fs s y u) ∧ Below w.heap.size w w' := by
  have lsm : s.may.length ≤ maxLen := by unfold maxLen; omega
  have lym : y.stuffs.length ≤ maxLen := by unfold maxLen; omega
  have HK : Hid (y.kind = 1 → 0 < y.stuffs.length) := hpos
  clear hpos
  unfold placeV
  have b0 : Below w.heap.size w (w.alloc (.cells #[.slice af fs.length cf, .string s.name, .int .i64 s.cap, .int .i64 s.least, .int .i64 s.most, .slice m s.may.length c, .int .i64 y.number, .int .i64 y.kind, .slice (some a2) y.stuffs.length c2, .slice a3 y.uses.length c3, .slice a4 y.opens.length c4, .slice a5 y.shuts.length c5, .string u.name, .int .i64 u.role, .int .i64 u.amount] 181)) := (Below.refl _ _).alloc (Nat.le_refl _) _
  have p0 := Row.new w 181 [.slice af fs.length cf, .string s.name, .int .i64 s.cap, .int .i64 s.least, .int .i64 s.most, .slice m s.may.length c, .int .i64 y.number, .int .i64 y.kind, .slice (some a2) y.stuffs.length c2, .slice a3 y.uses.length c3, .slice a4 y.opens.length c4, .slice a5 y.shuts.length c5, .string u.name, .int .i64 u.role, .int .i64 u.amount]
  generalize hwa : w.alloc (.cells #[.slice af fs.length cf, .string s.name, .int .i64 s.cap, .int .i64 s.least, .int .i64 s.most, .slice m s.may.length c, .int .i64 y.number, .int .i64 y.kind, .slice (some a2) y.stuffs.length c2, .slice a3 y.uses.length c3, .slice a4 y.opens.length c4, .slice a5 y.shuts.length c5, .string u.name, .int .i64 u.role, .int .i64 u.amount] 181) = wa at b0
  have HWA : Hid (w.alloc (.cells #[.slice af fs.length cf, .string s.name, .int .i64 s.cap, .int .i64 s.least, .int .i64 s.most, .slice m s.may.length c, .int .i64 y.number, .int .i64 y.kind, .slice (some a2) y.stuffs.length c2, .slice a3 y.uses.length c3, .slice a4 y.opens.length c4, .slice a5 y.shuts.length c5, .string u.name, .int .i64 u.role, .int .i64 u.amount] 181) = wa) := hwa
  have p1 : Row wa w.heap.size 181 [.slice af fs.length cf, .string s.name, .int .i64 s.cap, .int .i64 s.least, .int .i64 s.most, .slice m s.may.length c, .int .i64 y.number, .int .i64 y.kind, .slice (some a2) y.stuffs.length c2, .slice a3 y.uses.length c3, .slice a4 y.opens.length c4, .slice a5 y.shuts.length c5, .string u.name, .int .i64 u.role, .int .i64 u.amount] := hwa ▸ p0
  clear hwa p0
  have q0 := p1.cell 0 rfl
  have q5 := p1.cell 5 rfl
  have q7 := p1.cell 7 rfl
  have q8 := p1.cell 8 rfl
  have q13 := p1.cell 13 rfl
  clear p1
  go_enter Tryz.func135, Tryz.ntmps135
  go_wp2
  rw [HWA.out]
  go_quiet (fail)
  have b1 : Below w.heap.size w (wa.drewN nq) := below_drewN b0 _
  have e0 : (wa.drewN nq).cell? ⟨w.heap.size, 0, none⟩ = some (.slice af fs.length cf) := q0
  have e7 : (wa.drewN nq).cell? ⟨w.heap.size, 7, none⟩ = some (.int .i64 y.kind) := q7
  have e13 : (wa.drewN nq).cell? ⟨w.heap.size, 13, none⟩ = some (.int .i64 u.role) := q13
  generalize wa.drewN nq = wb at b1 e0 e7 e13 ⊢
  clear q0 q5 q7 q8 q13 b0
  cases k1 : y.kind == 1 with
  | false =>
    have k1' : (y.kind != 1) = true := by rw [bne, k1]; rfl
    go_wp2
    go_ret
    exact ⟨by unfold mayW; rw [k1]; rfl, b1⟩
  | true =>
  have k1' : (y.kind != 1) = false := by rw [bne, k1]; rfl
  have hpos : 0 < y.stuffs.length := HK.out (by simpa using k1)
  cases r2 : u.role == 2 with
  | false =>
    have r2' : (u.role != 2) = true := by rw [bne, r2]; rfl
    go_wp2_with fail
    refine (allIn_any m (some a2) c c2 s.may y.stuffs _ (hs.later b1) (hy.later b1) lsm lym).mono ?_
    rintro e w1 ⟨rfl, rfl⟩
    go_wp2_with fail
    refine (reasonIf_any (!allB s.may y.stuffs) 8 _).mono ?_
    rintro e w2 ⟨rfl, rfl⟩
    go_wp2
    go_ret
    exact ⟨by unfold mayW; rw [k1, r2]; rfl, b1⟩
  | true =>
    have r2' : (u.role != 2) = false := by rw [bne, r2]; rfl
    go_wp2_with fail
    refine (anyFoes_any af cf fs m (some a2) c c2 s.may y.stuffs _ (hfs.later b1) hfl (hs.later b1) (hy.later b1) lsm lym).mono ?_
    rintro e w1 ⟨rfl, hb1⟩
    have b2 := b1.trans (hb1.mono b1.size)
    cases hq : anyFoesB fs s.may y.stuffs with
    | true =>
      go_wp2
      go_ret
      exact ⟨by unfold mayW; rw [k1, r2, hq]; rfl, b2⟩
    | false =>
      have HM : Hid (mayW fs s y u = whyV (decide (8 < (joinL s.may y.stuffs).length)) 5) := (by unfold mayW; rw [k1, r2, hq]; rfl : mayW fs s y u = whyV (decide (8 < (joinL s.may y.stuffs).length)) 5)
      clear e0 e7 e13
      go_wp2_with fail
      refine (joined_any m a2 c c2 s.may y.stuffs _ (hs.later b2) (hy.later b2) ls ly hpos).mono ?_
      rintro e w2 ⟨⟨g, cap, rfl, -⟩, hb2⟩
      have b3 := b2.trans (hb2.mono b2.size)
      generalize (joinL s.may y.stuffs).length = n at HM ⊢
      go_wp2_with fail
      refine (reasonIf_any (decide ((8 : Int) < (n : Int))) 5 _).mono ?_
      rintro e w3 ⟨rfl, rfl⟩
      go_wp2
      go_ret
      exact ⟨by rw [HM.out, show decide (8 < n) = decide ((8 : Int) < (n : Int)) from by simp only [decide_eq_decide]; omega]; rfl, b3⟩

end Go.Proofs.YtfmhkicncgccjaaGreatDoor
