/- Joined: UpB, OwX. -/
import Derived.Test.YtfmhkicncgccjaaGreatFm20
import Derived.Test.YtfmhkicncgccjaaGreatFm14
import Derived.Test.YtfmhkicncgccjaaGreatFm11
/- A spot of an owned book is changed in place. -/
namespace Go.Proofs.YtfmhkicncgccjaaGreat
open Go.RowKit Go.Sort
set_option linter.unusedSimpArgs false
set_option linter.unusedVariables false

/-- The spot at k is written anew, its list lies at a'. -/
theorem OwnSpots.put {w w' : World} {b : Nat} {ps : List Spot} {A : Nat → Option Addr} {C : Nat → Nat} (h : OwnSpots w (some ⟨b, 0, none⟩) ps A C) {k : Nat} (hk : k < ps.length) {s : Spot} {a' : Option Addr} {c' : Nat}
 (hrow : OwnL w' 72 5 (some ⟨b, 0, none⟩) ps.length (fun j => if j = k then spotCell s a' c' else spotCell (gp ps j) (A j) (C j))) (hon : Only (fun y => y = b) w w')
 (hl : OwnL w' 9 1 a' s.may.length (strF s.may)) (hc : s.may.length ≤ c') (hb : ∀ y, InSlot a' s.may.length y → y ≠ b)
 (he : ∀ j, j < ps.length → j ≠ k → ∀ y, InSlot a' s.may.length y → ¬ InSlot (A j) (gp ps j).may.length y) :
 OwnSpots w' (some ⟨b, 0, none⟩) (ps.set k s) (fun j => if j = k then a' else A j) (fun j => if j = k then c' else C j) := by
 have hbs : InSlot (some ⟨b, 0, none⟩) ps.length b := ⟨by omega, 0, rfl⟩
 refine ⟨?_, fun j hj => ?_, fun j hj => ?_, fun j hj y hy hy' => ?_, fun i j hi hj hij y hy hy' => ?_⟩
 · rw [List.length_set]
   refine hrow.congr fun j hj c hc => ?_
   rw [gp_set hk]
   by_cases e : j = k
   · simp only [e, if_true]
   · simp only [e, if_false]
 · rw [List.length_set] at hj
   rw [gp_set hk]
   by_cases e : j = k
   · simp only [e, if_true]; exact hl
   · simp only [e, if_false]
     exact (h.may j hj).only hon (fun y hy e' => h.apart j hj y hy (by rw [e']; exact hbs))
 · rw [List.length_set] at hj
   rw [gp_set hk]
   by_cases e : j = k
   · simp only [e, if_true]; exact hc
   · simp only [e, if_false]
     exact h.cap j hj
 · rw [List.length_set] at hj hy'
   rw [gp_set hk] at hy
   by_cases e : j = k
   · simp only [e, if_true] at hy
     exact hb y hy (inSlot_some hy')
   · simp only [e, if_false] at hy
     exact h.apart j hj y hy hy'
 · rw [List.length_set] at hi hj
   rw [gp_set hk] at hy hy'
   by_cases e : i = k
   · have e2 : j ≠ k := fun h => hij (e.trans h.symm)
     simp only [e, if_true] at hy
     simp only [e2, if_false] at hy'
     exact he j hj e2 y hy hy'
   · simp only [e, if_false] at hy
     by_cases e2 : j = k
     · simp only [e2, if_true] at hy'
       exact he i hi e y hy' hy
     · simp only [e2, if_false] at hy'
       exact h.each i j hi hj hij y hy hy'
theorem ite_self' {α : Type} (A : Nat → α) (k : Nat) : (fun j => if j = k then A k else A j) = A := by
 funext j
 by_cases e : j = k
 · rw [if_pos e, e]
 · rw [if_neg e]
/-- One level is written. -/
theorem OwnSpots.setLeast {w : World} {b : Nat} {ps : List Spot} {A : Nat → Option Addr} {C : Nat → Nat} (h : OwnSpots w (some ⟨b, 0, none⟩) ps A C) {k : Nat} (hk : k < ps.length) (n : Int) :
 OwnSpots (w.setCell ⟨b, k * 5 + 2, none⟩ (.int .i64 n)) (some ⟨b, 0, none⟩) (ps.set k ⟨(gp ps k).name, (gp ps k).cap, n, (gp ps k).most, (gp ps k).may⟩) A C := by
 have on := Only.cell w ⟨b, k * 5 + 2, none⟩ (.int .i64 n)
 have := h.put (w' := w.setCell ⟨b, k * 5 + 2, none⟩ (.int .i64 n)) (s := ⟨(gp ps k).name, (gp ps k).cap, n, (gp ps k).most, (gp ps k).may⟩) (a' := A k) (c' := C k) hk
  ((h.row.setAt hk (by omega : 2 < 5) (.int .i64 n)).congr (fun k' hk' j' hj' => by
    by_cases e : k' = k
    · subst e
      simp only [if_true, true_and]
      match j', hj' with
      | 0, _ => rfl
      | 1, _ => rfl
      | 2, _ => rfl
      | 3, _ => rfl
      | 4, _ => rfl
    · simp only [e, false_and, if_false])) on
  ((h.may k hk).only on (fun y hy e => h.apart k hk y hy ⟨by omega, 0, by have e' : y = b := e; rw [e']⟩)) (h.cap k hk) (fun y hy e => h.apart k hk y hy ⟨by omega, 0, by rw [e]⟩) (fun j hj hjk y hy => h.each k j hk hj (fun e => hjk e.symm) y hy)
 rwa [ite_self', ite_self'] at this
theorem OwnSpots.setMost {w : World} {b : Nat} {ps : List Spot} {A : Nat → Option Addr} {C : Nat → Nat} (h : OwnSpots w (some ⟨b, 0, none⟩) ps A C) {k : Nat} (hk : k < ps.length) (n : Int) :
 OwnSpots (w.setCell ⟨b, k * 5 + 3, none⟩ (.int .i64 n)) (some ⟨b, 0, none⟩) (ps.set k ⟨(gp ps k).name, (gp ps k).cap, (gp ps k).least, n, (gp ps k).may⟩) A C := by
 have on := Only.cell w ⟨b, k * 5 + 3, none⟩ (.int .i64 n)
 have := h.put (w' := w.setCell ⟨b, k * 5 + 3, none⟩ (.int .i64 n)) (s := ⟨(gp ps k).name, (gp ps k).cap, (gp ps k).least, n, (gp ps k).may⟩) (a' := A k) (c' := C k) hk
  ((h.row.setAt hk (by omega : 3 < 5) (.int .i64 n)).congr (fun k' hk' j' hj' => by
    by_cases e : k' = k
    · subst e
      simp only [if_true, true_and]
      match j', hj' with
      | 0, _ => rfl
      | 1, _ => rfl
      | 2, _ => rfl
      | 3, _ => rfl
      | 4, _ => rfl
    · simp only [e, false_and, if_false])) on
  ((h.may k hk).only on (fun y hy e => h.apart k hk y hy ⟨by omega, 0, by have e' : y = b := e; rw [e']⟩)) (h.cap k hk) (fun y hy e => h.apart k hk y hy ⟨by omega, 0, by rw [e]⟩) (fun j hj hjk y hy => h.each k j hk hj (fun e => hjk e.symm) y hy)
 rwa [ite_self', ite_self'] at this
/-- A list of its own is written: it is new, or the spot's old one. -/
theorem OwnSpots.setMay {w : World} {b : Nat} {ps : List Spot} {A : Nat → Option Addr} {C : Nat → Nat} (h : OwnSpots w (some ⟨b, 0, none⟩) ps A C) {k : Nat} (hk : k < ps.length) {l : List ByteArray} {a' : Option Addr} {c' : Nat}
 (hl : OwnL w 9 1 a' l.length (strF l)) (hc : l.length ≤ c') (hb : ∀ y, InSlot a' l.length y → y ≠ b) (he : ∀ j, j < ps.length → j ≠ k → ∀ y, InSlot a' l.length y → ¬ InSlot (A j) (gp ps j).may.length y) :
 OwnSpots (w.setCell ⟨b, k * 5 + 4, none⟩ (.slice a' l.length c')) (some ⟨b, 0, none⟩) (ps.set k ⟨(gp ps k).name, (gp ps k).cap, (gp ps k).least, (gp ps k).most, l⟩) (fun j => if j = k then a' else A j) (fun j => if j = k then c' else C j) := by
 have on := Only.cell w ⟨b, k * 5 + 4, none⟩ (.slice a' l.length c')
 exact h.put (w' := w.setCell ⟨b, k * 5 + 4, none⟩ (.slice a' l.length c')) (s := ⟨(gp ps k).name, (gp ps k).cap, (gp ps k).least, (gp ps k).most, l⟩) (a' := a') (c' := c') hk
  ((h.row.setAt hk (by omega : 4 < 5) (.slice a' l.length c')).congr (fun k' hk' j' hj' => by
    by_cases e : k' = k
    · subst e
      simp only [if_true, true_and]
      match j', hj' with
      | 0, _ => rfl
      | 1, _ => rfl
      | 2, _ => rfl
      | 3, _ => rfl
      | 4, _ => rfl
    · simp only [e, false_and, if_false])) on
  (hl.only on (fun y hy e => hb y hy e)) hc hb he
/-- All cells of a spot are written. -/
theorem OwnSpots.setAll {w : World} {b : Nat} {ps : List Spot} {A : Nat → Option Addr} {C : Nat → Nat} (h : OwnSpots w (some ⟨b, 0, none⟩) ps A C) {k : Nat} (hk : k < ps.length) {s : Spot} {a' : Option Addr} {c' : Nat}
 (hl : OwnL w 9 1 a' s.may.length (strF s.may)) (hc : s.may.length ≤ c') (hb : ∀ y, InSlot a' s.may.length y → y ≠ b) (he : ∀ j, j < ps.length → j ≠ k → ∀ y, InSlot a' s.may.length y → ¬ InSlot (A j) (gp ps j).may.length y) :
 OwnSpots (((((w.setCell ⟨b, k * 5, none⟩ (.string s.name)).setCell ⟨b, k * 5 + 1, none⟩ (.int .i64 s.cap)).setCell ⟨b, k * 5 + 2, none⟩ (.int .i64 s.least)).setCell ⟨b, k * 5 + 3, none⟩ (.int .i64 s.most)).setCell ⟨b, k * 5 + 4, none⟩ (.slice a' s.may.length c')) (some ⟨b, 0, none⟩) (ps.set k s) (fun j => if j = k then a' else A j) (fun j => if j = k then c' else C j) ∧
 Only (fun y => y = b) w (((((w.setCell ⟨b, k * 5, none⟩ (.string s.name)).setCell ⟨b, k * 5 + 1, none⟩ (.int .i64 s.cap)).setCell ⟨b, k * 5 + 2, none⟩ (.int .i64 s.least)).setCell ⟨b, k * 5 + 3, none⟩ (.int .i64 s.most)).setCell ⟨b, k * 5 + 4, none⟩ (.slice a' s.may.length c')) := by
 have on : Only (fun y => y = b) w (((((w.setCell ⟨b, k * 5, none⟩ (.string s.name)).setCell ⟨b, k * 5 + 1, none⟩ (.int .i64 s.cap)).setCell ⟨b, k * 5 + 2, none⟩ (.int .i64 s.least)).setCell ⟨b, k * 5 + 3, none⟩ (.int .i64 s.most)).setCell ⟨b, k * 5 + 4, none⟩ (.slice a' s.may.length c')) :=
  ((((Only.cell w ⟨b, k * 5, none⟩ _).set rfl _ _).set rfl _ _).set rfl _ _).set rfl _ _
 have hr := ((((h.row.setAt hk (by omega : 0 < 5) (.string s.name)).setAt hk (by omega : 1 < 5) (.int .i64 s.cap)).setAt hk (by omega : 2 < 5) (.int .i64 s.least)).setAt hk (by omega : 3 < 5) (.int .i64 s.most)).setAt hk (by omega : 4 < 5) (.slice a' s.may.length c')
 refine ⟨h.put (s := s) (a' := a') (c' := c') hk (hr.congr (fun k' hk' j' hj' => ?_)) on (hl.only on (fun y hy e => hb y hy e)) hc hb he, on⟩
 by_cases e : k' = k
 · subst e
   simp only [if_true, true_and]
   match j', hj' with
   | 0, _ => rfl
   | 1, _ => rfl
   | 2, _ => rfl
   | 3, _ => rfl
   | 4, _ => rfl
 · simp only [e, false_and, if_false]
/-- The book whose spots have changed in place. -/
theorem OwnBook.withSpots {w w' : World} {x : Book} {af av aq : Option Addr} {b : Nat} {A1 A1' : Nat → Option Addr} {C1 C1' : Nat → Nat} {A2 : Nat → Nat → Option Addr} {C2 : Nat → Nat → Nat} {ss : List Spot} {n : Int} (h : OwnBook w x af (some ⟨b, 0, none⟩) av aq A1 C1 A2 C2) (hx : x.spots.length ≠ 0)
 (hs : OwnSpots w' (some ⟨b, 0, none⟩) ss A1' C1') (on : Only (fun y => y = b) w w') {N : Nat} (hN : ∀ y, InBk x af (some ⟨b, 0, none⟩) av aq A1 A2 y → y < N) (hin : ∀ y, InSp (some ⟨b, 0, none⟩) ss A1' y → InSp (some ⟨b, 0, none⟩) x.spots A1 y ∨ N ≤ y) :
 OwnBook w' ⟨x.foes, ss, x.valves, x.parts, n⟩ af (some ⟨b, 0, none⟩) av aq A1' C1' A2 C2 := by
 have hb : InSp (some ⟨b, 0, none⟩) x.spots A1 b := Or.inl ⟨hx, 0, rfl⟩
 refine ⟨h.foes.only on (fun y hy e => h.d01 y hy (by have e' : y = b := e; rw [e']; exact hb)), hs, h.valves.only on (fun y hy e => h.d12 y (by have e' : y = b := e; rw [e']; exact hb) hy), h.parts.only on (fun y hy e => h.d13 y (by have e' : y = b := e; rw [e']; exact hb) hy),
  fun y hy hy' => ?_, h.d02, h.d03, fun y hy hy' => ?_, fun y hy hy' => ?_, h.d23⟩
 · rcases hin y hy' with h1 | h1
   · exact h.d01 y hy h1
   · have := hN y (Or.inl hy); omega
 · rcases hin y hy with h1 | h1
   · exact h.d12 y h1 hy'
   · have := hN y (Or.inr (Or.inr (Or.inl hy'))); omega
 · rcases hin y hy with h1 | h1
   · exact h.d13 y h1 hy'
   · have := hN y (Or.inr (Or.inr (Or.inr hy'))); omega
theorem inSp_set {a : Option Addr} {ps : List Spot} {A : Nat → Option Addr} {k : Nat} (hk : k < ps.length) {s : Spot} {a' : Option Addr} {y : Nat} (h : InSp a (ps.set k s) (fun j => if j = k then a' else A j) y) : InSp a ps A y ∨ InSlot a' s.may.length y := by
 rcases h with h | ⟨j, hj, h⟩
 · rw [List.length_set] at h
   exact Or.inl (Or.inl h)
 · rw [List.length_set] at hj
   rw [gp_set hk] at h
   by_cases e : j = k
   · simp only [e, if_true] at h
     exact Or.inr h
   · simp only [e, if_false] at h
     exact Or.inl (Or.inr ⟨j, hj, h⟩)
theorem inSp_same {a : Option Addr} {ps : List Spot} {A : Nat → Option Addr} {k : Nat} (hk : k < ps.length) {s : Spot} (e : s.may = (gp ps k).may) {y : Nat} (h : InSp a (ps.set k s) A y) : InSp a ps A y := by
 rw [← ite_self' A k] at h
 rcases inSp_set hk h with h | h
 · exact h
 · rw [e] at h
   exact Or.inr ⟨k, hk, h⟩
theorem set_self' {ps : List Spot} {k : Nat} (hk : k < ps.length) : ps.set k ⟨(gp ps k).name, (gp ps k).cap, (gp ps k).least, (gp ps k).most, (gp ps k).may⟩ = ps := by
 have e : (⟨(gp ps k).name, (gp ps k).cap, (gp ps k).least, (gp ps k).most, (gp ps k).may⟩ : Spot) = ps[k] := by rw [gp_lt hk]
 rw [e]
 exact List.set_getElem_self hk

end Go.Proofs.YtfmhkicncgccjaaGreat

/- The copy of names, with its room. -/
namespace Go.Proofs.YtfmhkicncgccjaaGreat
open Go.RowKit Go.Sort
set_option linter.unusedSimpArgs false
set_option linter.unusedVariables false

theorem wpList_append_zeroX {P : Program} {w : World} {ops : Array Oper} {rest : List Oper} {o : Oper} {a : Act} {Q : Exit → Act → World → Prop} (hgd : o.guard = none) (s x : Operand) {t e : TypeId} {size : Nat}
 (ho : o.op = .call { callee := .builtin .append, args := #[s, x], argTypes := #[t, t] }) (hT : SliceT P t e size)
 (a0 : Option Addr) (hs : a.eval s = .slice a0 0 0)
 (ax : Option Addr) (m c : Nat) (g : Nat → Nat → Value) (hxe : a.eval x = .slice ax m c) (hx : RowAt w ax m size g) (h1 : ∀ k j, (g k j).oneCell' = true) (hn : m ≤ 16777216)
 (h : ∀ a' c' w', OwnL w' e size a' m g → (∀ y, InSlot a' m y → y = w.heap.size) → CapX w' e size a' m c' → Below w.heap.size w w' → wpList P ops Q rest (a.put o.dst (.slice a' m c')) w') : wpList P ops Q (o :: rest) a w := by
 refine wpList_plain hgd fun _ hK => ?_
 obtain ⟨a', c', w', hr, h2, h3, h4, h5⟩ := run_append_zeroX (P := P) w o.type hT a0 ax m c g hx h1 hn
 unfold Oper.wp execOp
 simp only [ho, resolve, invoke, builtin, Sem.run_bind, Sem.run_pure, Result.andThen_ok, List.map_toArray, List.map_cons, List.map_nil, hs, hxe, hr]
 exact hK _ _ (h a' c' w' h2 h3 h4 h5)
set_option maxRecDepth 100000 in
set_option maxHeartbeats 2000000 in
theorem l1Names_x (a : Option Addr) (n cap : Nat) (f : Nat → Nat → Value) (w : World) (hm : RowAt w a n 1 f) (h1 : ∀ k j, (f k j).oneCell' = true) (hl : n ≤ 1048576) :
 Calls Tryz.prog 78 #[.slice a n cap] w fun e w' => (∃ a' c', e = .returned (.slice a' n c') ∧ OwnL w' 9 1 a' n f ∧ CapX w' 9 1 a' n c' ∧ ∀ y, InSlot a' n y → w.heap.size ≤ y) ∧ Below w.heap.size w w' := by
 have b0 : Below w.heap.size w (w.alloc (.cells #[] 9)) := (Below.refl _ _).alloc (Nat.le_refl _) _
 have sz : (w.alloc (.cells #[] 9)).heap.size = w.heap.size + 1 := by simp
 go_enter Tryz.func78, Tryz.ntmps78
 go_wp2_with (at_builtin; refine wpList_append_zeroX (by rfl) _ _ (by rfl) sliceStr (some ⟨w.heap.size, 0, none⟩) (by rfl) a n cap f (by rfl) (hm.later b0) h1 (by omega) ?_)
 intro a' c' w' ho hy hc hb'
 have hb := b0.trans (hb'.mono (by omega))
 have LO : Hid (∀ y, InSlot a' n y → w.heap.size ≤ y) := fun y h => by have := hy y h; omega
 clear b0 hy sz
 go_wp2
 go_ret
 exact ⟨⟨a', c', rfl, ho, hc, LO.out⟩, hb⟩

end Go.Proofs.YtfmhkicncgccjaaGreat

