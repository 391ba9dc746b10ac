/- Joined: GpC, JnA. -/
import Derived.Test.YtfmhkicncgccjaaGreatDoorPd10
import Derived.Test.YtfmhkicncgccjaaGreatDoorPe01
import Derived.Test.YtfmhkicncgccjaaGreatDoorPe03
import Derived.Shelf.Slices.In.SortNone
/- Plain: two ascending lists joined, by putting in and by sorting. -/
namespace Go.Proofs.YtfmhkicncgccjaaGreatDoor
open Go.RowKit Go.Sort
set_option linter.unusedSimpArgs false
set_option linter.unusedVariables false

/-- Ascending, by the texts. -/
def AscT (l : List ByteArray) : Prop := (l.map textOf).Pairwise (· < ·)
theorem eqS_eq {s t : ByteArray} : eqS s t = true ↔ s = t := by
  unfold eqS
  rw [toList_is, toList_is, beq_iff_eq]
  exact ⟨fun h => textOf_inj h, fun h => by rw [h]⟩
theorem mem_insS {l : List ByteArray} {s t : ByteArray} : t ∈ insS l s ↔ t ∈ l ∨ t = s := by
  induction l with
  | nil => simp [insS]
  | cons a r ih =>
    unfold insS
    split
    · simp only [List.mem_cons, ih, or_assoc]
    · split
      · next h =>
        have e := eqS_eq.1 h
        subst e
        simp only [List.mem_cons]
        constructor
        · intro h; exact Or.inl h
        · rintro (h | h)
          · exact h
          · exact Or.inl h
      · simp only [List.mem_cons]
        constructor
        · rintro (h | h | h)
          · exact Or.inr h
          · exact Or.inl (Or.inl h)
          · exact Or.inl (Or.inr h)
        · rintro ((h | h) | h)
          · exact Or.inr (Or.inl h)
          · exact Or.inr (Or.inr h)
          · exact Or.inl h
theorem asc_insS {l : List ByteArray} {s : ByteArray} (h : AscT l) : AscT (insS l s) := by
  induction l with
  | nil => simp [insS, AscT]
  | cons a r ih =>
    unfold AscT at h
    rw [List.map_cons, List.pairwise_cons] at h
    unfold insS
    split
    · next hlt =>
      unfold AscT
      rw [List.map_cons, List.pairwise_cons]
      refine ⟨fun z hz => ?_, ih h.2⟩
      obtain ⟨t, ht, rfl⟩ := List.mem_map.1 hz
      rcases mem_insS.1 ht with h' | h'
      · exact h.1 _ (List.mem_map.2 ⟨t, h', rfl⟩)
      · subst h'; exact ltS_iff.1 hlt
    · next hlt =>
      split
      · unfold AscT
        rw [List.map_cons, List.pairwise_cons]
        exact h
      · next hne =>
        have hls : textOf s < textOf a := by
          have h' : textOf s ≤ textOf a := List.not_lt.1 (fun h' => hlt (ltS_iff.2 h'))
          rcases List.le_iff_lt_or_eq.1 h' with h'' | h''
          · exact h''
          · exact absurd (eqS_eq.2 (textOf_inj h''.symm)) hne
        unfold AscT
        rw [List.map_cons, List.map_cons, List.pairwise_cons, List.pairwise_cons]
        refine ⟨fun z hz => ?_, h⟩
        rcases List.mem_cons.1 hz with rfl | hz
        · exact hls
        · exact List.lt_trans hls (h.1 z hz)
theorem insTo_asc {l ss : List ByteArray} (h : AscT l) : ∀ k, k ≤ ss.length → AscT (insTo l ss k) ∧ ∀ t, t ∈ insTo l ss k ↔ t ∈ l ∨ t ∈ ss.take k
  | 0, _ => by rw [insTo_zero]; exact ⟨h, fun t => by simp⟩
  | k + 1, hk => by
    obtain ⟨h1, h2⟩ := insTo_asc (ss := ss) h k (by omega)
    rw [insTo_succ (by omega)]
    refine ⟨asc_insS h1, fun t => ?_⟩
    rw [mem_insS, h2, List.take_succ_eq_append_getElem (show k < ss.length by omega), gs_lt (show k < ss.length by omega), List.mem_append, List.mem_singleton, or_assoc]
theorem sorted_same : ∀ {a b : List (List UInt8)}, a.Pairwise (· < ·) → b.Pairwise (· < ·) → (∀ z, z ∈ a ↔ z ∈ b) → a = b
  | [], [], _, _, _ => rfl
  | [], y :: b, _, _, h => absurd ((h y).2 (List.mem_cons_self)) (by simp)
  | x :: a, [], _, _, h => absurd ((h x).1 (List.mem_cons_self)) (by simp)
  | x :: a, y :: b, ha, hb, h => by
    rw [List.pairwise_cons] at ha hb
    have e : x = y := by
      rcases List.mem_cons.1 ((h x).1 List.mem_cons_self) with e | hx
      · exact e
      · rcases List.mem_cons.1 ((h y).2 List.mem_cons_self) with e | hy
        · exact e.symm
        · exact absurd (List.lt_trans (hb.1 x hx) (ha.1 y hy)) (List.lt_irrefl _)
    subst e
    congr 1
    refine sorted_same ha.2 hb.2 (fun z => ?_)
    constructor
    · intro hz
      rcases List.mem_cons.1 ((h z).1 (List.mem_cons_of_mem _ hz)) with e | h'
      · subst e; exact absurd (ha.1 z hz) (List.lt_irrefl _)
      · exact h'
    · intro hz
      rcases List.mem_cons.1 ((h z).2 (List.mem_cons_of_mem _ hz)) with e | h'
      · subst e; exact absurd (hb.1 z hz) (List.lt_irrefl _)
      · exact h'
theorem compactUpTo_sub (d : Array (List UInt8)) : ∀ m, m ≤ d.size → (Lib.compactUpTo d m).Sublist (d.toList.take m)
  | 0, _ => by simp [Lib.compactUpTo]
  | m + 1, hm => by
    have ih := compactUpTo_sub d m (by omega)
    rw [Lib.compactUpTo_succ, List.take_succ_eq_append_getElem (show m < d.toList.length by rw [Array.length_toList]; omega)]
    refine List.Sublist.append ih ?_
    split
    · have e : d[m]! = d.toList[m]'(by rw [Array.length_toList]; omega) := by
        rw [getElem!_pos d m (by omega)]
        simp
      rw [e]
      exact List.Sublist.refl _
    · exact List.nil_sublist _
theorem compact_asc {zs : List (List UInt8)} (hs : zs.Pairwise (fun a b => leL a b = true)) : (Lib.compact zs).Pairwise (· < ·) := by
  have h1 := (compact_sorted zs hs).1
  have h2 : (Lib.compact zs).Sublist zs := by
    have := compactUpTo_sub zs.toArray zs.length (by simp)
    simp only [List.take_length] at this
    exact this
  have h3 := List.Pairwise.sublist h2 hs
  rw [List.nodup_iff_pairwise_ne] at h1
  refine (h1.and h3).imp ?_
  rintro a b ⟨hne, hle⟩
  have hle' : a ≤ b := by simpa [leL] using hle
  rcases List.le_iff_lt_or_eq.1 hle' with h | h
  · exact h
  · exact absurd h hne
/-- Two ascending lists joined: by putting in, and by sorting and compacting. -/
theorem join_ins {a b : List ByteArray} (ha : AscT a) : joinL a b = (insTo a b b.length).map textOf := by
  have hsort : (((a ++ b).map textOf).mergeSort leL).Pairwise (fun x y => leL x y = true) := List.pairwise_mergeSort (fun x y z h1 h2 => by simp only [leL, decide_eq_true_eq] at *; exact List.le_trans h1 h2) (fun x y => by simp only [leL, Bool.or_eq_true, decide_eq_true_eq]; exact List.le_total x y) _
  obtain ⟨h1, h2⟩ := insTo_asc ha b.length (Nat.le_refl _)
  refine sorted_same (compact_asc hsort) h1 (fun z => ?_)
  show z ∈ Lib.compact _ ↔ _
  rw [(compact_sorted _ hsort).2, List.mem_mergeSort, List.mem_map, List.mem_map]
  constructor
  · rintro ⟨t, ht, rfl⟩
    refine ⟨t, (h2 t).2 ?_, rfl⟩
    rw [List.take_length]
    exact List.mem_append.1 ht
  · rintro ⟨t, ht, rfl⟩
    refine ⟨t, List.mem_append.2 ?_, rfl⟩
    have := (h2 t).1 ht
    rwa [List.take_length] at this
theorem asc_of {ss : List ByteArray} (h : ∀ k, 0 < k → k < ss.length → ltS (gs ss (k - 1)) (gs ss k) = true) : AscT ss := by
  have key : ∀ (j i : Nat), i < j → j < ss.length → textOf (gs ss i) < textOf (gs ss j) := by
    intro j
    induction j with
    | zero => intro i hi; omega
    | succ j ih =>
      intro i hi hj
      have h1 := ltS_iff.1 (h (j + 1) (by omega) hj)
      simp only [Nat.add_sub_cancel] at h1
      by_cases e : i = j
      · subst e; exact h1
      · exact List.lt_trans (ih i (by omega) (by omega)) h1
  unfold AscT
  rw [List.pairwise_map, List.pairwise_iff_getElem]
  intro i j hi hj hij
  have := key j i hij hj
  rwa [gs_lt hi, gs_lt hj] at this

end Go.Proofs.YtfmhkicncgccjaaGreatDoor

/- What slices.Concat and the program's joined answer of two lists of texts, whether empty or not. -/
namespace Go.Proofs.YtfmhkicncgccjaaGreatDoor
open Go.RowKit Go.Sort Go.Shelf
set_option linter.unusedSimpArgs false
set_option linter.unusedVariables false

theorem strF_behind (xs ys : List ByteArray) (k j : Nat) : behindF xs.length (strF xs) (strF ys) k j = strF (xs ++ ys) k j := by
  by_cases h : k < xs.length
  · rw [behindF_lt h]
    unfold strF gs
    rw [List.getD_eq_getElem?_getD, List.getD_eq_getElem?_getD, List.getElem?_append_left h]
  · obtain ⟨d, rfl⟩ : ∃ d, k = xs.length + d := ⟨k - xs.length, by omega⟩
    rw [behindF_ge]
    unfold strF gs
    rw [List.getD_eq_getElem?_getD, List.getD_eq_getElem?_getD, List.getElem?_append_right (by omega), Nat.add_sub_cancel_left]
theorem flat_str (l : List ByteArray) : flat l.length 1 (strF l) = (l.map textOf).map encStr := by
  rw [← map_enc]
  apply List.ext_getElem?
  intro q
  by_cases hq : q < l.length
  · have := flat_at (n := l.length) (s := 1) (strF l) hq (by omega : 0 < 1)
    rw [Nat.mul_one, Nat.add_zero] at this
    rw [this, List.getElem?_map, List.getElem?_eq_getElem hq]
    unfold strF
    rw [gs_lt hq]
    rfl
  · rw [List.getElem?_eq_none (by rw [flat_length]; omega), List.getElem?_eq_none (by simp; omega)]

theorem growNone_any (w : World) : Calls Tryz.prog 164 #[.slice none 0 0, .int .i64 0] w fun e w' => e = .returned (.slice none 0 0) ∧ Below w.heap.size w w' := by
  have h := Any8.slices_Grow_room Tryz.laysGrow none 0 0 0 w (Nat.le_refl _) (by omega) (by omega) (by omega)
  refine Calls.mono h ?_
  rintro e w' ⟨rfl, h⟩
  subst h
  exact ⟨rfl, Below.refl _ _⟩
/-- What Grow gives, whether there is something to come or not. -/
theorem growAll_any (n : Nat) (hn2 : n ≤ 1000) (w : World) :
    Calls Tryz.prog 164 #[.slice none 0 0, .int .i64 n] w fun e w' => (∃ a c, e = .returned (.slice a 0 c) ∧ CapOf w' 9 1 a 0 c ∧ ∀ q, InAddr a q → w.heap.size ≤ q) ∧ Below w.heap.size w w' := by
  by_cases h0 : n = 0
  · subst h0
    refine (growNone_any w).mono ?_
    rintro e w' ⟨rfl, hb⟩
    exact ⟨⟨none, 0, rfl, capOf_nil _ _ _, fun q ⟨_, h⟩ => by cases h⟩, hb⟩
  · refine (grow_any n (by omega) hn2 w).mono ?_
    rintro e w' ⟨⟨cap, rfl, hown⟩, hb⟩
    have hown' : w'.ownsRow w.heap.size 9 1 (.slice (some ⟨w.heap.size, 0, none⟩) 0 cap) 0 (flat 0 1 (strF [])) := hown
    obtain ⟨a, c, e, -, hc, hlo⟩ := OwnL.of_owns2 hown'
    cases e
    exact ⟨⟨_, _, rfl, hc, hlo⟩, hb⟩

set_option maxRecDepth 100000 in
set_option maxHeartbeats 4000000 in
theorem concat_own (p : Nat) (a b : Option Addr) (ca cb : Nat) (xs ys : List ByteArray) (w : World) (h0 : w.cell? ⟨p, 0, none⟩ = some (.slice a xs.length ca)) (h1 : w.cell? ⟨p, 1, none⟩ = some (.slice b ys.length cb)) (hx : StrsAt w a xs) (hy : StrsAt w b ys) (lx : xs.length ≤ 100) (ly : ys.length ≤ 100) :
    Calls Tryz.prog 138 #[.slice (some ⟨p, 0, none⟩) 2 2] w fun e w' => (∃ a' c', e = .returned (.slice a' (xs.length + ys.length) c') ∧ OwnL w' 9 1 a' (xs.length + ys.length) (strF (xs ++ ys)) ∧ CapOf w' 9 1 a' (xs.length + ys.length) c' ∧ ∀ q, InAddr a' q → w.heap.size ≤ q) ∧ Below w.heap.size w w' := by
  have hw1 : wrap64 (xs.length : Int) = xs.length := by unfold wrap64; omega
  have hw2 : wrap64 ((xs.length : Int) + ys.length) = (xs.length : Int) + ys.length := by unfold wrap64; omega
  go_enter Tryz.func138, Tryz.ntmps138
  go_wp2
  refine wp_loop_rounds 3 ?_
  rw [rounds_succ]
  go_wp2
  rw [rounds_succ]
  go_wp2
  rw [rounds_succ]
  go_wp2_with fail
  have hgr := growAll_any (xs.length + ys.length) (by omega) w
  rw [Int.natCast_add] at hgr
  refine hgr.mono ?_
  rintro e w1 ⟨⟨d0, e0, rfl, cap1, lo1⟩, hb1⟩
  clear hgr
  have g0 := cell_later hb1 h0
  have g1 := cell_later hb1 h1
  have hx1 := hx.later hb1
  have hy1 := hy.later hb1
  clear hw1 hw2
  go_wp2
  refine wp_loop_rounds 3 ?_
  rw [rounds_succ]
  go_wp2_with (first
    | (at_builtin; refine wpList_append_row rfl _ _ rfl sliceStr d0 0 e0 (strF []) rfl (ownL_zero _ _ _ _ _) cap1 a xs.length ca (strF xs) rfl hx1 (oneStr _) (by omega) ?_)
    | go_in)
  intro d1 e1 w2 apd
  have hb2 : Below w.heap.size w w2 := hb1.trans (apd.only.below lo1 hb1.size)
  have lo2 : ∀ q, InAddr d1 q → w.heap.size ≤ q := fun q hq => (apd.at_ q hq).elim (lo1 q) (fun h => by have := hb1.size; omega)
  have own2 := apd.own
  have cap2 := apd.cap
  rw [Nat.zero_add] at own2 cap2
  have own2 : OwnL w2 9 1 d1 xs.length (strF xs) := own2.congr (fun k hk j hj => by have := behindF_ge (n := 0) (f := strF []) (g := strF xs) (k := k) (j := j); rwa [Nat.zero_add] at this)
  have g1' := cell_later hb2 h1
  have hy2 := hy.later hb2
  clear g0 g1 hx1 hy1 apd cap1
  go_wp2
  rw [rounds_succ]
  go_wp2_with (first
    | (at_builtin; refine wpList_append_row rfl _ _ rfl sliceStr d1 xs.length e1 (strF xs) (by simp [Act.eval, Act.put]) own2 cap2 b ys.length cb (strF ys) rfl hy2 (oneStr _) (by omega) ?_)
    | go_in)
  intro d2 e2 w3 apd
  have hb3 : Below w.heap.size w w3 := hb2.trans (apd.only.below lo2 hb2.size)
  have lo3 : ∀ q, InAddr d2 q → w.heap.size ≤ q := fun q hq => (apd.at_ q hq).elim (lo2 q) (fun h => by have := hb2.size; omega)
  have own3 := apd.own
  have cap3 := apd.cap
  have own3 : OwnL w3 9 1 d2 (xs.length + ys.length) (strF (xs ++ ys)) := own3.congr (fun k hk j hj => strF_behind xs ys k j)
  clear apd own2 cap2 g1' hy2
  go_wp2
  rw [rounds_succ]
  go_wp2
  go_ret
  exact ⟨⟨d2, e2, rfl, own3, cap3, lo3⟩, hb3⟩

theorem sortNone_any (p : Option Addr) (cap : Nat) (w : World) : Calls Tryz.prog 139 #[.slice p 0 cap] w fun e w' => e = .returned (.tuple #[]) ∧ w' = w := Any.slices_Sort_string_none Tryz.laysSort p cap w
theorem compactNone_any (p : Option Addr) (cap : Nat) (w : World) : Calls Tryz.prog 140 #[.slice p 0 cap] w fun e w' => e = .returned (.slice p 0 cap) ∧ w' = w := Any.slices_Compact_string_empty Tryz.laysCompact p cap w

set_option maxRecDepth 100000 in
set_option maxHeartbeats 4000000 in
theorem joined_own (a b : Option Addr) (ca cb : Nat) (xs ys : List ByteArray) (w : World) (hx : StrsAt w a xs) (hy : StrsAt w b ys) (lx : xs.length ≤ 100) (ly : ys.length ≤ 100) (hasc : AscT xs) :
    Calls Tryz.prog 116 #[.slice a xs.length ca, .slice b ys.length cb] w fun e w' => (∃ a' c', e = .returned (.slice a' (insTo xs ys ys.length).length c') ∧ OwnL w' 9 1 a' (insTo xs ys ys.length).length (strF (insTo xs ys ys.length)) ∧ (insTo xs ys ys.length).length ≤ c' ∧ ∀ q, InSlot a' (insTo xs ys ys.length).length q → w.heap.size ≤ q) ∧ Below w.heap.size w w' := by
  have b0 : Below w.heap.size w (w.alloc (.cells #[.slice a xs.length ca, .slice b ys.length cb] 24)) := (Below.refl _ _).alloc (Nat.le_refl _) _
  have hcat := concat_own w.heap.size a b ca cb xs ys (w.alloc (.cells #[.slice a xs.length ca, .slice b ys.length cb] 24)) (by rw [World.cell?_alloc_new]; rfl) (by rw [World.cell?_alloc_new]; rfl) (hx.later b0) (hy.later b0) lx ly
  by_cases hpos : xs.length + ys.length = 0
  · have ex : xs = [] := List.eq_nil_of_length_eq_zero (by omega)
    have ey : ys = [] := List.eq_nil_of_length_eq_zero (by omega)
    subst ex
    subst ey
    go_enter Tryz.func116, Tryz.ntmps116
    go_wp2_with fail
    refine hcat.mono ?_
    rintro e w1 ⟨⟨a', c', rfl, -, hc, -⟩, hb1⟩
    have b1 := b0.trans (hb1.mono b0.size)
    clear hcat b0 hb1
    go_wp2_with fail
    refine (sortNone_any a' c' w1).mono ?_
    rintro e w2 ⟨rfl, rfl⟩
    go_wp2_with fail
    refine (compactNone_any a' c' w2).mono ?_
    rintro e w3 ⟨rfl, rfl⟩
    go_wp2
    go_ret
    exact ⟨⟨a', c', rfl, Or.inl rfl, Nat.zero_le _, fun q hq => absurd rfl hq.1⟩, b1⟩
  · have hjoin := join_ins (b := ys) hasc
    generalize insTo xs ys ys.length = res at hjoin ⊢
    go_enter Tryz.func116, Tryz.ntmps116
    go_wp2_with fail
    refine hcat.mono ?_
    rintro e w1 ⟨⟨a', c', rfl, ho, hc, hlo⟩, hb1⟩
    have b1 := b0.trans (hb1.mono b0.size)
    have hown1 : w1.ownsRow w.heap.size 9 1 (.slice a' (xs.length + ys.length) c') (xs.length + ys.length) (((xs ++ ys).map textOf).map encStr) := by
      have h := ho.owns hc (base := w.heap.size) (fun q hq => Nat.le_trans (by simp) (hlo q hq))
      have e := flat_str (xs ++ ys)
      rw [List.length_append] at e
      rw [e] at h
      exact h
    have hvn : (Value.slice a' (xs.length + ys.length) c') ≠ .slice none 0 0 := by
      intro h
      simp only [Value.slice.injEq] at h
      omega
    obtain ⟨g, cap, hv, hbg, hgl, hncap, hcm, hlen, hH⟩ := Lib.holds_of_ownsRow hown1 hvn
    cases hv
    have hsort := sort_any g c' ((xs ++ ys).map textOf) w1 hH hgl (by rw [hlen]; omega)
    rw [hlen] at hsort
    have X : Hid (w1.ownsRow w.heap.size 9 1 (.slice (some ⟨g, 0, none⟩) (xs.length + ys.length) c') (xs.length + ys.length) (((xs ++ ys).map textOf).map encStr) ∧ Below w.heap.size w w1 ∧ w.heap.size ≤ g ∧ g < w1.heap.size ∧ xs.length + ys.length ≤ c' ∧ ((xs ++ ys).map textOf).length = xs.length + ys.length ∧ Holds encStr w1 g 0 ((xs ++ ys).map textOf).toArray) := ⟨hown1, b1, hbg, hgl, hncap, hlen, hH⟩
    have HJ : Hid (joinL xs ys = res.map textOf) := hjoin
    clear hown1 hb1 b1 b0 hH hvn hlen hx hy hbg hgl hncap hcm hcat ho hc hlo hjoin hasc
    have HN : Hid (xs.length + ys.length ≤ 200) := (by omega : xs.length + ys.length ≤ 200)
    generalize hn : xs.length + ys.length = n at X hsort HN ⊢
    clear hn lx ly hpos
    unfold joinL at HJ
    generalize (xs ++ ys).map textOf = ss at X hsort HJ ⊢
    go_wp2_with fail
    refine hsort.mono ?_
    rintro e w2 ⟨rfl, nn, os, rfl⟩
    clear hsort
    have hl2 : (ss.mergeSort leL).length = n := by rw [List.length_mergeSort]; exact X.out.2.2.2.2.2.1
    have hH2 : Holds encStr (grow (putRow encStr (Sort.ahead w1 nn) g 0 (ss.mergeSort leL).toArray) os) g 0 (ss.mergeSort leL).toArray :=
      holds_grow encStr _ os g 0 _ (by simpa [putRow, mapBlock, Sort.ahead] using X.out.2.2.2.1) (holds_putRow encStr _ g 0 _ _ (holds_ahead encStr w1 nn g 0 _ X.out.2.2.2.2.2.2) (by simp))
    have hcomp := compact_any g c' (ss.mergeSort leL) _ hH2 (by rw [hl2]; have := HN.out; omega) (by rw [hl2]; exact X.out.2.2.2.2.1)
    rw [hl2] at hcomp
    clear hH2 hl2
    generalize hw2 : grow (putRow encStr (Sort.ahead w1 nn) g 0 (ss.mergeSort leL).toArray) os = w2 at hcomp ⊢
    have HW : Hid (grow (putRow encStr (Sort.ahead w1 nn) g 0 (ss.mergeSort leL).toArray) os = w2) := hw2
    clear hw2
    go_wp2_with fail
    refine hcomp.mono ?_
    rintro e w3 ⟨rfl, q, hw3⟩
    have HW3 : Hid (w3 = _) := hw3
    clear hcomp hw3
    rw [HJ.out, List.length_map]
    go_wp2
    go_ret
    have hfin := left_of (nn := nn) (q := q) (os := os) X.out.1 X.out.2.1 X.out.2.2.1 X.out.2.2.2.2.2.1
    rw [HW.out, ← HW3.out] at hfin
    obtain ⟨hfin, hbel⟩ := hfin
    have ej := HJ.out
    rw [ej] at hfin
    rw [List.length_map, ← flat_str] at hfin
    obtain ⟨a'', c'', e, o1, o2, o3⟩ := OwnL.of_owns2 hfin
    cases e
    exact ⟨⟨_, _, rfl, o1, o2.le, fun q hq => o3 q hq.2⟩, hbel⟩

end Go.Proofs.YtfmhkicncgccjaaGreatDoor
