/- Joined: OwN, OwK, OwF, OwP. -/
import Derived.Test.YtfmhkicncgccjaaGreatFm07
import Derived.Test.YtfmhkicncgccjaaGreatFm09
import Derived.Maps.AppendAt
import Derived.Deep.AppendLies
/- Lists that own their memory, out of rows that have grown. -/
namespace Go.Proofs.YtfmhkicncgccjaaGreat
open Go.RowKit Go.Sort
set_option linter.unusedSimpArgs false
set_option linter.unusedVariables false

def intF (l : List Int) (k : Nat) (_ : Nat) : Value := .int .i64 (l.getD k 0)
theorem Row.grown {w w' : World} {b : Nat} {t : TypeId} {l : List Value} {g : Option Nat} (h : Row w b t l) (hg : w.grownBy w' g) (hn : some b ≠ g) : Row w' b t l := (hg.block b h.lt hn).trans h

/-- The cells of n elements of s cells, one behind the other. -/
def flat (n s : Nat) (f : Nat → Nat → Value) : List Value := (List.range (n * s)).map fun q => f (q / s) (q % s)
theorem flat_length (n s : Nat) (f : Nat → Nat → Value) : (flat n s f).length = n * s := by simp [flat]
theorem flat_at {n s : Nat} (f : Nat → Nat → Value) {k j : Nat} (hk : k < n) (hj : j < s) : (flat n s f)[k * s + j]? = some (f k j) := by
 have h : k * s + j < n * s := by
  have h1 : (k + 1) * s ≤ n * s := Nat.mul_le_mul_right s hk
  rw [Nat.add_mul, Nat.one_mul] at h1
  omega
 have e1 : (k * s + j) / s = k := by
  rw [Nat.mul_comm, Nat.mul_add_div (by omega), Nat.div_eq_of_lt hj, Nat.add_zero]
 have e2 : (k * s + j) % s = j := by
  rw [Nat.mul_comm, Nat.mul_add_mod, Nat.mod_eq_of_lt hj]
 simp [flat, h, e1, e2]
theorem flat_news {w : World} {ad : Addr} {n s : Nat} {f : Nat → Nat → Value} (h : RowAt w (some ad) n s f) : ∀ j u, (flat n s f)[j]? = some u → w.cell? (ad.add j) = some u := by
 intro j u hu
 obtain ⟨hj, hu'⟩ := List.getElem?_eq_some_iff.1 hu
 rw [flat_length] at hj
 have hs : 0 < s := by
  rcases Nat.eq_zero_or_pos s with h0 | h0
  · subst h0; simp at hj
  · exact h0
 have hk : j / s < n := (Nat.div_lt_iff_lt_mul hs).2 hj
 obtain ⟨b, o, ha, hb, hc⟩ := h (j / s) hk
 cases ha
 have := hc (j % s) (Nat.mod_lt _ hs)
 rw [Nat.add_assoc, Nat.mul_comm, Nat.div_add_mod] at this
 rw [Addr.add_lit, this, ← hu']
 simp [flat]
theorem flat_one {n s : Nat} {f : Nat → Nat → Value} (hf : ∀ k j, (f k j).oneCell' = true) : ∀ u ∈ flat n s f, u.oneCell' = true := by
 intro u hu
 simp only [flat, List.mem_map] at hu
 obtain ⟨q, _, rfl⟩ := hu
 exact hf _ _
theorem OwnL.of_owns {w : World} {base : Nat} {e : TypeId} {s : Nat} {v : Value} {n : Nat} {f : Nat → Nat → Value} (h : w.ownsRow base e s v n (flat n s f)) : ∃ a c, v = .slice a n c ∧ OwnL w e s a n f ∧ (∀ x, InSlot a n x → base ≤ x) ∧ n ≤ c := by
 obtain ⟨_, h⟩ := h
 rcases h with ⟨rfl, rfl⟩ | ⟨g, cap, cur, rfl, hb, hcell, hn, _, hsz, htk⟩
 · exact ⟨none, 0, rfl, Or.inl rfl, fun x hx => absurd rfl hx.1, Nat.le_refl _⟩
 · refine ⟨some ⟨g, 0, none⟩, cap, rfl, Or.inr ⟨g, cur.toList, rfl, ?_, ?_, fun k hk j hj => ?_⟩, fun x hx => ?_, hn⟩
   · unfold Row
     rw [hcell]
   · simp only [Array.length_toList, hsz]
     exact Nat.mul_le_mul_right s hn
   · rw [← flat_at f hk hj, ← htk]
     rw [List.getElem?_take_of_lt]
     have h1 : (k + 1) * s ≤ n * s := Nat.mul_le_mul_right s hk
     rw [Nat.add_mul, Nat.one_mul] at h1
     omega
   · have := inSlot_some hx
     omega

end Go.Proofs.YtfmhkicncgccjaaGreat

/- Lists whose room is known: what an append may lean on. -/
namespace Go.Proofs.YtfmhkicncgccjaaGreat
open Go.RowKit Go.Sort
set_option linter.unusedSimpArgs false
set_option linter.unusedVariables false

theorem Row.same {w : World} {b : Nat} {t t' : TypeId} {l l' : List Value} (h : Row w b t l) (h' : Row w b t' l') : l = l' := by
 unfold Row at h h'
 rw [h] at h'
 simp only [Option.some.injEq, Obj.cells.injEq] at h'
 have := congrArg Array.toList h'.1
 simpa using this
/-- The room of a list: c elements of s cells, all of its block. -/
def CapOf (w : World) (t : TypeId) (s : Nat) (a : Option Addr) (n c : Nat) : Prop :=
 (n = 0 ∧ a = none ∧ c = 0) ∨ ∃ b l, a = some ⟨b, 0, none⟩ ∧ Row w b t l ∧ l.length = c * s ∧ n ≤ c ∧ c ≤ maxLen
/-- The block of a list, whether it is empty or not. -/
def InAddr (a : Option Addr) (y : Nat) : Prop := ∃ o, a = some ⟨y, o, none⟩
theorem CapOf.only {B : Nat → Prop} {w w' : World} {t : TypeId} {s : Nat} {a : Option Addr} {n c : Nat} (h : CapOf w t s a n c) (ho : Only B w w') (hB : ∀ y, InAddr a y → ¬ B y) : CapOf w' t s a n c := by
 rcases h with h | ⟨b, l, rfl, hr, hl, hn, hm⟩
 · exact Or.inl h
 · exact Or.inr ⟨b, l, rfl, hr.only ho (hB b ⟨0, rfl⟩), hl, hn, hm⟩
theorem CapOf.later {w w' : World} {t : TypeId} {s : Nat} {a : Option Addr} {n c : Nat} (h : CapOf w t s a n c) (hb : Below w.heap.size w w') : CapOf w' t s a n c := h.only (Only.of (B := fun _ => False) hb) (fun _ _ => id)
theorem CapOf.lt {w : World} {t : TypeId} {s : Nat} {a : Option Addr} {n c : Nat} (h : CapOf w t s a n c) {y : Nat} (hy : InAddr a y) : y < w.heap.size := by
 obtain ⟨o, rfl⟩ := hy
 rcases h with ⟨_, h, _⟩ | ⟨b, l, e, hr, hl, hn, hm⟩
 · cases h
 · cases e
   exact hr.lt
theorem CapOf.le {w : World} {t : TypeId} {s : Nat} {a : Option Addr} {n c : Nat} (h : CapOf w t s a n c) : n ≤ c := by
 rcases h with ⟨h, _, h'⟩ | ⟨b, l, e, hr, hl, hn, hm⟩
 · omega
 · exact hn
theorem OwnL.congr {w : World} {t : TypeId} {s : Nat} {a : Option Addr} {n : Nat} {f g : Nat → Nat → Value} (h : OwnL w t s a n f) (hg : ∀ k, k < n → ∀ j, j < s → f k j = g k j) : OwnL w t s a n g := by
 rcases h with h | ⟨b, l, e, hr, hl, hc⟩
 · exact Or.inl h
 · exact Or.inr ⟨b, l, e, hr, hl, fun k hk j hj => by rw [hc k hk j hj, hg k hk j hj]⟩

/-- A list that owns its memory, its room known, is a row that an append may grow. -/
theorem OwnL.owns {w : World} {t : TypeId} {s : Nat} {a : Option Addr} {n c : Nat} {f : Nat → Nat → Value} {base : Nat} (h : OwnL w t s a n f) (hc : CapOf w t s a n c) (hb : ∀ y, InAddr a y → base ≤ y) : w.ownsRow base t s (.slice a n c) n (flat n s f) := by
 refine ⟨flat_length _ _ _, ?_⟩
 rcases hc with ⟨rfl, rfl, rfl⟩ | ⟨b, l, rfl, hr, hl, hn, hm⟩
 · exact Or.inl ⟨rfl, rfl⟩
 · refine Or.inr ⟨b, c, l.toArray, rfl, hb b ⟨0, rfl⟩, hr, hn, hm, by simpa using hl, ?_⟩
   apply List.ext_getElem?
   intro q
   by_cases hq : q < n * s
   · have hs : 0 < s := by
      rcases Nat.eq_zero_or_pos s with h0 | h0
      · subst h0; simp at hq
      · exact h0
     have hk : q / s < n := (Nat.div_lt_iff_lt_mul hs).2 hq
     rcases h with h | ⟨b', l', e, hr', hl', hc'⟩
     · subst h; exact absurd hk (Nat.not_lt_zero _)
     · cases e
       have e1 := hc' (q / s) hk (q % s) (Nat.mod_lt _ hs)
       have e2 := flat_at f hk (Nat.mod_lt q hs)
       have e3 : q / s * s + q % s = q := by rw [Nat.mul_comm]; exact Nat.div_add_mod q s
       rw [e3] at e1 e2
       rw [List.getElem?_take_of_lt hq, e2, hr.same hr', e1]
   · rw [List.getElem?_eq_none (by simp; omega), List.getElem?_eq_none (by rw [flat_length]; omega)]

/-- What a grown row gives. -/
theorem OwnL.of_owns2 {w : World} {base : Nat} {e : TypeId} {s : Nat} {v : Value} {n : Nat} {f : Nat → Nat → Value} (h : w.ownsRow base e s v n (flat n s f)) : ∃ a c, v = .slice a n c ∧ OwnL w e s a n f ∧ CapOf w e s a n c ∧ ∀ y, InAddr a y → base ≤ y := by
 obtain ⟨_, h⟩ := h
 rcases h with ⟨rfl, rfl⟩ | ⟨g, cap, cur, rfl, hb, hcell, hn, hm, hsz, htk⟩
 · exact ⟨none, 0, rfl, Or.inl rfl, Or.inl ⟨rfl, rfl, rfl⟩, fun y hy => by obtain ⟨o, h⟩ := hy; cases h⟩
 · have hrow : Row w g e cur.toList := by unfold Row; rw [hcell]
   refine ⟨some ⟨g, 0, none⟩, cap, rfl, Or.inr ⟨g, cur.toList, rfl, hrow, ?_, fun k hk j hj => ?_⟩, Or.inr ⟨g, cur.toList, rfl, hrow, by simpa using hsz, hn, hm⟩, fun y hy => ?_⟩
   · simp only [Array.length_toList, hsz]
     exact Nat.mul_le_mul_right s hn
   · rw [← flat_at f hk hj, ← htk]
     rw [List.getElem?_take_of_lt]
     have h1 : (k + 1) * s ≤ n * s := Nat.mul_le_mul_right s hk
     rw [Nat.add_mul, Nat.one_mul] at h1
     omega
   · obtain ⟨o, h⟩ := hy
     cases h
     exact hb
/-- The cells of one list behind those of another. -/
theorem flat_append {n m s : Nat} {f g h : Nat → Nat → Value} (hf : ∀ k, k < n → ∀ j, j < s → h k j = f k j) (hg : ∀ k, k < m → ∀ j, j < s → h (n + k) j = g k j) : flat n s f ++ flat m s g = flat (n + m) s h := by
 apply List.ext_getElem?
 intro q
 rcases Nat.eq_zero_or_pos s with h0 | hs
 · subst h0; simp [flat]
 have hm := Nat.mod_lt q hs
 have e3 : q / s * s + q % s = q := by rw [Nat.mul_comm]; exact Nat.div_add_mod q s
 by_cases h1 : q < n * s
 · have hk : q / s < n := (Nat.div_lt_iff_lt_mul hs).2 h1
   rw [List.getElem?_append_left (by rw [flat_length]; exact h1)]
   have a1 := flat_at f hk hm
   have a2 := flat_at h (n := n + m) (k := q / s) (by omega) hm
   rw [e3] at a1 a2
   rw [a1, a2, hf _ hk _ hm]
 · rw [List.getElem?_append_right (by rw [flat_length]; omega), flat_length]
   by_cases h2 : q < (n + m) * s
   · have hkq : q / s < n + m := (Nat.div_lt_iff_lt_mul hs).2 h2
     have hnk : n ≤ q / s := (Nat.le_div_iff_mul_le hs).2 (by omega)
     have e4 : q - n * s = (q / s - n) * s + q % s := by
      rw [Nat.sub_mul]
      have := Nat.mul_le_mul_right s hnk
      omega
     have a1 := flat_at g (n := m) (k := q / s - n) (by omega) hm
     have a2 := flat_at h (n := n + m) (k := q / s) hkq hm
     rw [e3] at a2
     rw [e4, a1, a2, ← hg _ (by omega) _ hm]
     rw [show n + (q / s - n) = q / s by omega]
   · rw [List.getElem?_eq_none (by rw [flat_length, Nat.le_sub_iff_add_le (by omega)]; rw [Nat.add_mul] at h2; omega), List.getElem?_eq_none (by rw [flat_length]; omega)]

end Go.Proofs.YtfmhkicncgccjaaGreat

/- What the program's fresh copies answer: lists that own their memory. -/
namespace Go.Proofs.YtfmhkicncgccjaaGreat
open Go.RowKit Go.Sort
set_option linter.unusedSimpArgs false
set_option linter.unusedVariables false

theorem oneStr (ss : List ByteArray) : ∀ k j, (strF ss k j).oneCell' = true := fun _ _ => rfl
theorem oneUse (us : List Use) : ∀ k j, (useF us k j).oneCell' = true := fun k j => by
 unfold useF
 match j with
 | 0 => rfl
 | 1 => rfl
 | _ + 2 => rfl
theorem oneFoe (us : List Foe) : ∀ k j, (foeF us k j).oneCell' = true := fun k j => by
 unfold foeF
 match j with
 | 0 => rfl
 | _ + 1 => rfl
theorem oneSpot (s : Spot) (m : Option Addr) (c : Nat) : ∀ j, (spotCell s m c j).oneCell' = true := fun j => by
 match j with
 | 0 => rfl
 | 1 => rfl
 | 2 => rfl
 | 3 => rfl
 | _ + 4 => rfl
theorem onePart (p : Part) (A : Nat → Option Addr) (C : Nat → Nat) : ∀ j, (partCell p A C j).oneCell' = true := fun j => by
 match j with
 | 0 => rfl
 | 1 => rfl
 | 2 => rfl
 | 3 => rfl
 | 4 => rfl
 | 5 => rfl
 | _ + 6 => rfl

set_option maxRecDepth 100000 in
set_option maxHeartbeats 2000000 in
theorem freshS_own (a : Option Addr) (n cap : Nat) (f : Nat → Nat → Value) (w : World) (hm : RowAt w a n 1 f) (h1 : ∀ k j, (f k j).oneCell' = true) (hl : n ≤ 1048576) :
 Calls Tryz.prog 121 #[.slice a n cap] w fun e w' => (∃ a' c', e = .returned (.slice a' n c') ∧ OwnL w' 9 1 a' n f ∧ CapOf w' 9 1 a' n c' ∧ (∀ x, InAddr a' x → w.heap.size ≤ x) ∧ (n = 0 → a' = none)) ∧ Below w.heap.size w w' := by
 obtain ⟨t0, hi, hz0, hz1, hz2⟩ := info_parts info9
 cases a with
 | some ad =>
  go_enter Tryz.func121, Tryz.ntmps121
  go_wp2_with (first
   | (at_builtin; refine wpList_append_own _ rfl _ _ 25 rfl w.heap.size 9 t0 (.string .empty) 1 16 Tryz.underlying25 hi hz0 hz1 hz2 rfl (by decide) _ _ _ rfl (World.ownsRow_nil _ _ _ _) ad n cap (flat n 1 f) rfl (flat_length _ _ _) (flat_news hm) (flat_one h1) ?c3 ?c4 ?c5 ?_))
  case c3 => unfold maxLen; omega
  case c4 => omega
  case c5 => exact Nat.le_refl _
  intro v2 w2 hown2 hgrow2 hnil
  have hb2 := (Below.refl w.heap.size w).grown hgrow2 (Nat.le_refl _) (fun g hg => by simp [Value.ownBlock] at hg)
  try simp only [Nat.zero_add, List.nil_append] at hown2
  obtain ⟨a', c', rfl, ho, hx, hc⟩ := OwnL.of_owns2 hown2
  have HN : Hid (n = 0 → a' = none) := fun h0 => by
   have := hnil.2 (by first | exact h0 | exact ⟨rfl, h0⟩)
   simp only [Value.slice.injEq] at this
   exact this.1
  clear hown2 hgrow2 hnil
  go_wp2
  go_ret
  exact ⟨⟨a', c', rfl, ho, hx, hc, HN.out⟩, hb2⟩
 | none =>
  have hn : n = 0 := by
   rcases Nat.eq_zero_or_pos n with h | h
   · exact h
   · obtain ⟨_, _, h, _⟩ := hm 0 h
     cases h
  subst hn
  have hnone : ∀ ty, (Builtin.append_ #[25, 25] ty #[.slice none 0 0, .slice none 0 cap]).run Tryz.prog w = .ok (.slice none 0 0) w := fun ty => by
   simp [Builtin.append_, run_underlying Tryz.underlying25, sizeOf, typeInfo, hi, Builtin.lenOf, Builtin.firstCells, storeCells]
  go_enter Tryz.func121, Tryz.ntmps121
  go_wp2
  go_ret
  exact ⟨⟨none, 0, rfl, Or.inl rfl, Or.inl ⟨rfl, rfl, rfl⟩, (fun x hx => by obtain ⟨o, h⟩ := hx; cases h), fun _ => rfl⟩, Below.refl _ _⟩

set_option maxRecDepth 100000 in
set_option maxHeartbeats 2000000 in
theorem freshU_own (a : Option Addr) (n cap : Nat) (f : Nat → Nat → Value) (w : World) (hm : RowAt w a n 3 f) (h1 : ∀ k j, (f k j).oneCell' = true) (hl : n ≤ 1048576) :
 Calls Tryz.prog 152 #[.slice a n cap] w fun e w' => (∃ a' c', e = .returned (.slice a' n c') ∧ OwnL w' 101 3 a' n f ∧ CapOf w' 101 3 a' n c' ∧ (∀ x, InAddr a' x → w.heap.size ≤ x) ∧ (n = 0 → a' = none)) ∧ Below w.heap.size w w' := by
 obtain ⟨t0, hi, hz0, hz1, hz2⟩ := info_parts infoUse
 cases a with
 | some ad =>
  go_enter Tryz.func152, Tryz.ntmps152
  go_wp2_with (first
   | (at_builtin; refine wpList_append_own _ rfl _ _ 36 rfl w.heap.size 101 t0 (.agg #[.string .empty, .int .i64 0, .int .i64 0]) 3 32 Tryz.underlying36 hi hz0 hz1 hz2 rfl (by decide) _ _ _ rfl (World.ownsRow_nil _ _ _ _) ad n cap (flat n 3 f) rfl (flat_length _ _ _) (flat_news hm) (flat_one h1) ?c3 ?c4 ?c5 ?_))
  case c3 => unfold maxLen; omega
  case c4 => omega
  case c5 => exact Nat.le_refl _
  intro v2 w2 hown2 hgrow2 hnil
  have hb2 := (Below.refl w.heap.size w).grown hgrow2 (Nat.le_refl _) (fun g hg => by simp [Value.ownBlock] at hg)
  try simp only [Nat.zero_add, List.nil_append] at hown2
  obtain ⟨a', c', rfl, ho, hx, hc⟩ := OwnL.of_owns2 hown2
  have HN : Hid (n = 0 → a' = none) := fun h0 => by
   have := hnil.2 (by first | exact h0 | exact ⟨rfl, h0⟩)
   simp only [Value.slice.injEq] at this
   exact this.1
  clear hown2 hgrow2 hnil
  go_wp2
  go_ret
  exact ⟨⟨a', c', rfl, ho, hx, hc, HN.out⟩, hb2⟩
 | none =>
  have hn : n = 0 := by
   rcases Nat.eq_zero_or_pos n with h | h
   · exact h
   · obtain ⟨_, _, h, _⟩ := hm 0 h
     cases h
  subst hn
  have hnone : ∀ ty, (Builtin.append_ #[36, 36] ty #[.slice none 0 0, .slice none 0 cap]).run Tryz.prog w = .ok (.slice none 0 0) w := fun ty => by
   simp [Builtin.append_, run_underlying Tryz.underlying36, sizeOf, typeInfo, hi, Builtin.lenOf, Builtin.firstCells, storeCells]
  go_enter Tryz.func152, Tryz.ntmps152
  go_wp2
  go_ret
  exact ⟨⟨none, 0, rfl, Or.inl rfl, Or.inl ⟨rfl, rfl, rfl⟩, (fun x hx => by obtain ⟨o, h⟩ := hx; cases h), fun _ => rfl⟩, Below.refl _ _⟩

set_option maxRecDepth 100000 in
set_option maxHeartbeats 2000000 in
theorem freshF_own (a : Option Addr) (n cap : Nat) (f : Nat → Nat → Value) (w : World) (hm : RowAt w a n 2 f) (h1 : ∀ k j, (f k j).oneCell' = true) (hl : n ≤ 1048576) :
 Calls Tryz.prog 120 #[.slice a n cap] w fun e w' => (∃ a' c', e = .returned (.slice a' n c') ∧ OwnL w' 70 2 a' n f ∧ CapOf w' 70 2 a' n c' ∧ (∀ x, InAddr a' x → w.heap.size ≤ x) ∧ (n = 0 → a' = none)) ∧ Below w.heap.size w w' := by
 obtain ⟨t0, hi, hz0, hz1, hz2⟩ := info_parts infoFoe
 cases a with
 | some ad =>
  go_enter Tryz.func120, Tryz.ntmps120
  go_wp2_with (first
   | (at_builtin; refine wpList_append_own _ rfl _ _ 23 rfl w.heap.size 70 t0 (.agg #[.string .empty, .string .empty]) 2 32 Tryz.underlying23 hi hz0 hz1 hz2 rfl (by decide) _ _ _ rfl (World.ownsRow_nil _ _ _ _) ad n cap (flat n 2 f) rfl (flat_length _ _ _) (flat_news hm) (flat_one h1) ?c3 ?c4 ?c5 ?_))
  case c3 => unfold maxLen; omega
  case c4 => omega
  case c5 => exact Nat.le_refl _
  intro v2 w2 hown2 hgrow2 hnil
  have hb2 := (Below.refl w.heap.size w).grown hgrow2 (Nat.le_refl _) (fun g hg => by simp [Value.ownBlock] at hg)
  try simp only [Nat.zero_add, List.nil_append] at hown2
  obtain ⟨a', c', rfl, ho, hx, hc⟩ := OwnL.of_owns2 hown2
  have HN : Hid (n = 0 → a' = none) := fun h0 => by
   have := hnil.2 (by first | exact h0 | exact ⟨rfl, h0⟩)
   simp only [Value.slice.injEq] at this
   exact this.1
  clear hown2 hgrow2 hnil
  go_wp2
  go_ret
  exact ⟨⟨a', c', rfl, ho, hx, hc, HN.out⟩, hb2⟩
 | none =>
  have hn : n = 0 := by
   rcases Nat.eq_zero_or_pos n with h | h
   · exact h
   · obtain ⟨_, _, h, _⟩ := hm 0 h
     cases h
  subst hn
  have hnone : ∀ ty, (Builtin.append_ #[23, 23] ty #[.slice none 0 0, .slice none 0 cap]).run Tryz.prog w = .ok (.slice none 0 0) w := fun ty => by
   simp [Builtin.append_, run_underlying Tryz.underlying23, sizeOf, typeInfo, hi, Builtin.lenOf, Builtin.firstCells, storeCells]
  go_enter Tryz.func120, Tryz.ntmps120
  go_wp2
  go_ret
  exact ⟨⟨none, 0, rfl, Or.inl rfl, Or.inl ⟨rfl, rfl, rfl⟩, (fun x hx => by obtain ⟨o, h⟩ := hx; cases h), fun _ => rfl⟩, Below.refl _ _⟩

set_option maxRecDepth 100000 in
set_option maxHeartbeats 2000000 in
theorem freshP_own (a : Option Addr) (n cap : Nat) (f : Nat → Nat → Value) (w : World) (hm : RowAt w a n 5 f) (h1 : ∀ k j, (f k j).oneCell' = true) (hl : n ≤ 1048576) :
 Calls Tryz.prog 122 #[.slice a n cap] w fun e w' => (∃ a' c', e = .returned (.slice a' n c') ∧ OwnL w' 72 5 a' n f ∧ CapOf w' 72 5 a' n c' ∧ (∀ x, InAddr a' x → w.heap.size ≤ x) ∧ (n = 0 → a' = none)) ∧ Below w.heap.size w w' := by
 obtain ⟨t0, hi, hz0, hz1, hz2⟩ := info_parts infoSpot
 cases a with
 | some ad =>
  go_enter Tryz.func122, Tryz.ntmps122
  go_wp2_with (first
   | (at_builtin; refine wpList_append_own _ rfl _ _ 24 rfl w.heap.size 72 t0 (.agg #[.string .empty, .int .i64 0, .int .i64 0, .int .i64 0, .slice none 0 0]) 5 64 Tryz.underlying24 hi hz0 hz1 hz2 rfl (by decide) _ _ _ rfl (World.ownsRow_nil _ _ _ _) ad n cap (flat n 5 f) rfl (flat_length _ _ _) (flat_news hm) (flat_one h1) ?c3 ?c4 ?c5 ?_))
  case c3 => unfold maxLen; omega
  case c4 => omega
  case c5 => exact Nat.le_refl _
  intro v2 w2 hown2 hgrow2 hnil
  have hb2 := (Below.refl w.heap.size w).grown hgrow2 (Nat.le_refl _) (fun g hg => by simp [Value.ownBlock] at hg)
  try simp only [Nat.zero_add, List.nil_append] at hown2
  obtain ⟨a', c', rfl, ho, hx, hc⟩ := OwnL.of_owns2 hown2
  have HN : Hid (n = 0 → a' = none) := fun h0 => by
   have := hnil.2 (by first | exact h0 | exact ⟨rfl, h0⟩)
   simp only [Value.slice.injEq] at this
   exact this.1
  clear hown2 hgrow2 hnil
  go_wp2
  go_ret
  exact ⟨⟨a', c', rfl, ho, hx, hc, HN.out⟩, hb2⟩
 | none =>
  have hn : n = 0 := by
   rcases Nat.eq_zero_or_pos n with h | h
   · exact h
   · obtain ⟨_, _, h, _⟩ := hm 0 h
     cases h
  subst hn
  have hnone : ∀ ty, (Builtin.append_ #[24, 24] ty #[.slice none 0 0, .slice none 0 cap]).run Tryz.prog w = .ok (.slice none 0 0) w := fun ty => by
   simp [Builtin.append_, run_underlying Tryz.underlying24, sizeOf, typeInfo, hi, Builtin.lenOf, Builtin.firstCells, storeCells]
  go_enter Tryz.func122, Tryz.ntmps122
  go_wp2
  go_ret
  exact ⟨⟨none, 0, rfl, Or.inl rfl, Or.inl ⟨rfl, rfl, rfl⟩, (fun x hx => by obtain ⟨o, h⟩ := hx; cases h), fun _ => rfl⟩, Below.refl _ _⟩

set_option maxRecDepth 100000 in
set_option maxHeartbeats 2000000 in
theorem freshQ_own (a : Option Addr) (n cap : Nat) (f : Nat → Nat → Value) (w : World) (hm : RowAt w a n 7 f) (h1 : ∀ k j, (f k j).oneCell' = true) (hl : n ≤ 1048576) :
 Calls Tryz.prog 123 #[.slice a n cap] w fun e w' => (∃ a' c', e = .returned (.slice a' n c') ∧ OwnL w' 61 7 a' n f ∧ CapOf w' 61 7 a' n c' ∧ (∀ x, InAddr a' x → w.heap.size ≤ x) ∧ (n = 0 → a' = none)) ∧ Below w.heap.size w w' := by
 obtain ⟨t0, hi, hz0, hz1, hz2⟩ := info_parts infoPart
 cases a with
 | some ad =>
  go_enter Tryz.func123, Tryz.ntmps123
  go_wp2_with (first
   | (at_builtin; refine wpList_append_own _ rfl _ _ 26 rfl w.heap.size 61 t0 (.agg #[.int .i64 0, .int .i64 0, .slice none 0 0, .slice none 0 0, .slice none 0 0, .slice none 0 0, .bool false]) 7 120 Tryz.underlying26 hi hz0 hz1 hz2 rfl (by decide) _ _ _ rfl (World.ownsRow_nil _ _ _ _) ad n cap (flat n 7 f) rfl (flat_length _ _ _) (flat_news hm) (flat_one h1) ?c3 ?c4 ?c5 ?_))
  case c3 => unfold maxLen; omega
  case c4 => omega
  case c5 => exact Nat.le_refl _
  intro v2 w2 hown2 hgrow2 hnil
  have hb2 := (Below.refl w.heap.size w).grown hgrow2 (Nat.le_refl _) (fun g hg => by simp [Value.ownBlock] at hg)
  try simp only [Nat.zero_add, List.nil_append] at hown2
  obtain ⟨a', c', rfl, ho, hx, hc⟩ := OwnL.of_owns2 hown2
  have HN : Hid (n = 0 → a' = none) := fun h0 => by
   have := hnil.2 (by first | exact h0 | exact ⟨rfl, h0⟩)
   simp only [Value.slice.injEq] at this
   exact this.1
  clear hown2 hgrow2 hnil
  go_wp2
  go_ret
  exact ⟨⟨a', c', rfl, ho, hx, hc, HN.out⟩, hb2⟩
 | none =>
  have hn : n = 0 := by
   rcases Nat.eq_zero_or_pos n with h | h
   · exact h
   · obtain ⟨_, _, h, _⟩ := hm 0 h
     cases h
  subst hn
  have hnone : ∀ ty, (Builtin.append_ #[26, 26] ty #[.slice none 0 0, .slice none 0 cap]).run Tryz.prog w = .ok (.slice none 0 0) w := fun ty => by
   simp [Builtin.append_, run_underlying Tryz.underlying26, sizeOf, typeInfo, hi, Builtin.lenOf, Builtin.firstCells, storeCells]
  go_enter Tryz.func123, Tryz.ntmps123
  go_wp2
  go_ret
  exact ⟨⟨none, 0, rfl, Or.inl rfl, Or.inl ⟨rfl, rfl, rfl⟩, (fun x hx => by obtain ⟨o, h⟩ := hx; cases h), fun _ => rfl⟩, Below.refl _ _⟩

end Go.Proofs.YtfmhkicncgccjaaGreat

/- An append to a list that owns its memory, its room known: what it leaves. -/
namespace Go.Proofs.YtfmhkicncgccjaaGreat
open Go.RowKit Go.Sort
set_option linter.unusedSimpArgs false
set_option linter.unusedVariables false

/-- t is the type of slices of e, whose values have so many cells. -/
def SliceT (P : Program) (t e : TypeId) (size : Nat) : Prop :=
 ∃ i z, P.underlying t = some (.slice e) ∧ P.info? e = some i ∧ i.zero = some z ∧ i.size = size ∧ z.cells.size = size ∧ 0 < size ∧ i.bytes ≤ 1024
theorem sliceT_of {P : Program} {t e : TypeId} {z : Value} {size bytes : Nat} (ht : P.underlying t = some (.slice e)) (hi : (P.info? e).map (fun i => (i.zero, i.size, i.bytes)) = some (some z, size, bytes)) (hz : z.cells.size = size) (h0 : 0 < size) (hb : bytes ≤ 1024) : SliceT P t e size := by
 obtain ⟨i, hi, h1, h2, h3⟩ := info_parts hi
 exact ⟨i, z, ht, hi, h1, h2, hz, h0, by omega⟩
theorem sliceStr : SliceT Tryz.prog 25 9 1 := sliceT_of Tryz.underlying25 info9 rfl (by decide) (by decide)
theorem sliceUse : SliceT Tryz.prog 36 101 3 := sliceT_of Tryz.underlying36 infoUse rfl (by decide) (by decide)
theorem sliceFoe : SliceT Tryz.prog 23 70 2 := sliceT_of Tryz.underlying23 infoFoe rfl (by decide) (by decide)
theorem sliceSpot : SliceT Tryz.prog 24 72 5 := sliceT_of Tryz.underlying24 infoSpot rfl (by decide) (by decide)
theorem slicePart : SliceT Tryz.prog 26 61 7 := sliceT_of Tryz.underlying26 infoPart rfl (by decide) (by decide)

/-- Two lists, one behind the other. -/
def behindF (n : Nat) (f g : Nat → Nat → Value) (k : Nat) : Nat → Value := if k < n then f k else g (k - n)
theorem behindF_lt {n : Nat} {f g : Nat → Nat → Value} {k j : Nat} (h : k < n) : behindF n f g k j = f k j := by unfold behindF; rw [if_pos h]
theorem behindF_ge {n : Nat} {f g : Nat → Nat → Value} {k j : Nat} : behindF n f g (n + k) j = g k j := by unfold behindF; rw [if_neg (by omega), Nat.add_sub_cancel_left]

/-- What an append leaves. -/
structure Appended (e : TypeId) (size : Nat) (w w' : World) (a0 : Option Addr) (n m : Nat) (f g : Nat → Nat → Value) (a' : Option Addr) (c' : Nat) : Prop where
 own : OwnL w' e size a' (n + m) (behindF n f g)
 cap : CapOf w' e size a' (n + m) c'
 at_ : ∀ y, InAddr a' y → InAddr a0 y ∨ y = w.heap.size
 only : Only (InAddr a0) w w'
 nil : n = 0 → m = 0 → a' = a0

theorem run_append_row {P : Program} (w : World) {t e : TypeId} {size : Nat} (ty : TypeId) (hT : SliceT P t e size) (a0 : Option Addr) (n c0 : Nat) (f : Nat → Nat → Value) (ho : OwnL w e size a0 n f) (hc : CapOf w e size a0 n c0)
 (ax : Option Addr) (m c : Nat) (g : Nat → Nat → Value) (hx : RowAt w ax m size g) (h1 : ∀ k j, (g k j).oneCell' = true) (hn : n + m ≤ 16777216) :
 ∃ a' c' w', (Builtin.append_ #[t, t] ty #[.slice a0 n c0, .slice ax m c]).run P w = .ok (.slice a' (n + m) c') w' ∧ Appended e size w w' a0 n m f g a' c' := by
 obtain ⟨i, z, ht, hi, hz, hs, hzs, h0, hb⟩ := hT
 have hl : (n + m) * i.bytes ≤ 16777216 * 1024 := Nat.mul_le_mul hn hb
 have hB : ∃ base, base ≤ w.heap.size ∧ ∀ y, InAddr a0 y → base ≤ y := ⟨0, Nat.zero_le _, fun _ _ => Nat.zero_le _⟩
 obtain ⟨base, hbase, hlo⟩ := hB
 have own := ho.owns hc hlo
 cases ax with
 | some ad =>
  obtain ⟨v', w', hr, h2, h3, h4, h5⟩ := run_append_own_at (P := P) w base t ty e i z size i.bytes ht hi hz hs rfl hzs h0 (.slice a0 n c0) n (flat n size f) own ad m c (flat m size g) (flat_length _ _ _) (flat_news hx) (flat_one h1) (by unfold maxLen; omega) (by omega) hbase
  rw [flat_append (h := behindF n f g) (fun k hk j hj => behindF_lt hk) (fun k hk j hj => behindF_ge)] at h2
  obtain ⟨a', c', rfl, o', cp', lo'⟩ := OwnL.of_owns2 h2
  refine ⟨a', c', w', hr, o', cp', fun y hy => ?_, ⟨h3.os, h3.tape, h3.output, h3.size, fun k hk hn => h3.block k hk fun e => ?_⟩, fun hn0 hm0 => ?_⟩
  · obtain ⟨o, rfl⟩ := hy
    simp only [Value.ownBlock] at h5
    rcases h5 with h5 | h5
    · refine Or.inl ?_
      rcases hc with ⟨_, rfl, _⟩ | ⟨b, l, rfl, _⟩
      · simp at h5
      · simp at h5; exact ⟨0, by rw [h5]⟩
    · simp at h5
      exact Or.inr h5
  · apply hn
    rcases hc with ⟨_, rfl, _⟩ | ⟨b, l, rfl, _⟩
    · simp [Value.ownBlock] at e
    · simp [Value.ownBlock] at e
      exact ⟨0, by rw [e]⟩
  · subst hn0 hm0
    rcases hc with ⟨_, rfl, rfl⟩ | ⟨b, l, rfl, hr', hl', _⟩
    · have := h4.2 ⟨rfl, rfl⟩
      simp only [Value.slice.injEq] at this
      exact this.1
    · rcases h5 with h5 | h5
      · rcases cp' with ⟨_, rfl, rfl⟩ | ⟨b', l', rfl, _⟩
        · simp [Value.ownBlock] at h5
        · simp [Value.ownBlock] at h5
          rw [h5]
      · exfalso
        have e0 : (Builtin.append_ #[t, t] ty #[.slice (some ⟨b, 0, none⟩) 0 c0, .slice (some ad) 0 c]).run P w = .ok (.slice (some ⟨b, 0, none⟩) 0 c0) w := by
         simp [Builtin.append_, run_underlying ht, sizeOf, typeInfo, hi, Builtin.lenOf, Builtin.firstCells, loadCells, loadCellsFrom, storeCells]
        rw [e0] at hr
        simp only [Result.ok.injEq, Value.slice.injEq] at hr
        rw [← hr.1.1] at h5
        simp [Value.ownBlock] at h5
        have := hr'.lt
        omega
 | none =>
  have hm : m = 0 := by
   rcases Nat.eq_zero_or_pos m with h | h
   · exact h
   · obtain ⟨_, _, h, _⟩ := hx 0 h
     cases h
  subst hm
  refine ⟨a0, c0, w, ?_, ?_, by simpa using hc, fun y hy => Or.inl hy, Only.refl _ _, fun _ _ => rfl⟩
  · rcases hc with ⟨rfl, rfl, rfl⟩ | ⟨b, l, rfl, hr', hl', hnc, _⟩
    · simp [Builtin.append_, run_underlying ht, sizeOf, typeInfo, hi, Builtin.lenOf, Builtin.firstCells, storeCells]
    · simp [Builtin.append_, run_underlying ht, sizeOf, typeInfo, hi, Builtin.lenOf, Builtin.firstCells, storeCells, hnc]
  · have : OwnL w e size a0 n (behindF n f g) := ho.congr (fun k hk j hj => (behindF_lt hk).symm)
    simpa using this

theorem wp_append_row {P : Program} {w : World} {o : Oper} {a : Act} {K : Act → World → Prop} {Q : Exit → Act → World → Prop} (s x : Operand) {t e : TypeId} {size : Nat}
 (ho : o.op = .call { callee := .builtin .append, args := #[s, x], argTypes := #[t, t] }) (hT : SliceT P t e size)
 (a0 : Option Addr) (n c0 : Nat) (f : Nat → Nat → Value) (hs : a.eval s = .slice a0 n c0) (hown : OwnL w e size a0 n f) (hc : CapOf w e size a0 n c0)
 (ax : Option Addr) (m c : Nat) (g : Nat → Nat → Value) (hxe : a.eval x = .slice ax m c) (hx : RowAt w ax m size g) (h1 : ∀ k j, (g k j).oneCell' = true) (hn : n + m ≤ 16777216)
 (h : ∀ a' c' w', Appended e size w w' a0 n m f g a' c' → K (a.put o.dst (.slice a' (n + m) c')) w') : o.wp P a w K Q := by
 obtain ⟨a', c', w', hr, h2⟩ := run_append_row (P := P) w o.type hT a0 n c0 f hown hc ax m c g hx h1 hn
 unfold Oper.wp execOp
 simp only [ho, resolve, invoke, builtin, Sem.run_bind, Sem.run_pure, Result.andThen_ok, List.map_toArray, List.map_cons, List.map_nil, hs, hxe, hr]
 exact h a' c' w' h2
theorem wpList_append_row {P : Program} {w : World} {ops : Array Oper} {rest : List Oper} {o : Oper} {a : Act} {Q : Exit → Act → World → Prop} (hgd : o.guard = none) (s x : Operand) {t e : TypeId} {size : Nat}
 (ho : o.op = .call { callee := .builtin .append, args := #[s, x], argTypes := #[t, t] }) (hT : SliceT P t e size)
 (a0 : Option Addr) (n c0 : Nat) (f : Nat → Nat → Value) (hs : a.eval s = .slice a0 n c0) (hown : OwnL w e size a0 n f) (hc : CapOf w e size a0 n c0)
 (ax : Option Addr) (m c : Nat) (g : Nat → Nat → Value) (hxe : a.eval x = .slice ax m c) (hx : RowAt w ax m size g) (h1 : ∀ k j, (g k j).oneCell' = true) (hn : n + m ≤ 16777216)
 (h : ∀ a' c' w', Appended e size w w' a0 n m f g a' c' → wpList P ops Q rest (a.put o.dst (.slice a' (n + m) c')) w') : wpList P ops Q (o :: rest) a w :=
 wpList_plain hgd fun _ hK => wp_append_row s x ho hT a0 n c0 f hs hown hc ax m c g hxe hx h1 hn fun a' c' w' h2 => hK _ _ (h a' c' w' h2)
theorem step_append_row {P : Program} {w : World} {ops : Array Oper} {o : Oper} {a : Act} {K : Act → World → Prop} {Q : Exit → Act → World → Prop} {E : Prop} (hgd : o.guard = none) (s x : Operand) {t e : TypeId} {size : Nat}
 (ho : o.op = .call { callee := .builtin .append, args := #[s, x], argTypes := #[t, t] }) (hT : SliceT P t e size)
 (a0 : Option Addr) (n c0 : Nat) (f : Nat → Nat → Value) (hs : a.eval s = .slice a0 n c0) (hown : OwnL w e size a0 n f) (hc : CapOf w e size a0 n c0)
 (ax : Option Addr) (m c : Nat) (g : Nat → Nat → Value) (hxe : a.eval x = .slice ax m c) (hx : RowAt w ax m size g) (h1 : ∀ k j, (g k j).oneCell' = true) (hn : n + m ≤ 16777216)
 (h : ∀ a' c' w', Appended e size w w' a0 n m f g a' c' → K (a.put o.dst (.slice a' (n + m) c')) w') :
 if Region.wanted o (yielded ops a.tmps) = true then Oper.wp P o a w K Q else E := by
 have hw : Region.wanted o (yielded ops a.tmps) = true := by simp [Region.wanted, hgd]
 rw [if_pos hw]
 exact wp_append_row s x ho hT a0 n c0 f hs hown hc ax m c g hxe hx h1 hn h

/-- The empty slice that a literal makes, and the nil slice. -/
theorem ownL_zero (w : World) (e : TypeId) (size : Nat) (a : Option Addr) (f : Nat → Nat → Value) : OwnL w e size a 0 f := Or.inl rfl
theorem capOf_nil (w : World) (e : TypeId) (size : Nat) : CapOf w e size none 0 0 := Or.inl ⟨rfl, rfl, rfl⟩
theorem capOf_row {w : World} {e : TypeId} {size b : Nat} (h : Row w b e []) : CapOf w e size (some ⟨b, 0, none⟩) 0 0 := Or.inr ⟨b, [], rfl, h, by simp, Nat.le_refl _, Nat.zero_le _⟩

end Go.Proofs.YtfmhkicncgccjaaGreat

