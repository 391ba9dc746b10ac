/- Joined: GpB. -/
import Derived.Deep.RegionHeld3
import Derived.Test.YtfmhkicncgccjaaGreatFm20
import Derived.Test.YtfmhkicncgccjaaGreatFm11
import Derived.Test.YtfmhkicncgccjaaGreatFm14
/- What the specification's l3Insert answers. -/
namespace Go.Proofs.YtfmhkicncgccjaaGreat
open Go.RowKit Go.Sort
set_option linter.unusedSimpArgs false
set_option linter.unusedVariables false

theorem lo_next {d1 a0 : Option Addr} {W : World} {N : Nat} (hat : ∀ y, InAddr d1 y → InAddr a0 y ∨ y = W.heap.size) (h0 : ∀ y, InAddr a0 y → N ≤ y) (hW : N ≤ W.heap.size) : ∀ y, InAddr d1 y → N ≤ y := fun y hy => (hat y hy).elim (h0 y) (fun h => by omega)
theorem gs_ins_lt {l : List ByteArray} {s : ByteArray} {k j : Nat} (hk : k ≤ l.length) (h : j < k) : gs (l.take k ++ [s] ++ l.drop k) j = gs l j := by
 unfold gs
 rw [List.getD_eq_getElem?_getD, List.getD_eq_getElem?_getD, List.append_assoc, List.getElem?_append_left (by simp; omega), List.getElem?_take_of_lt h]
theorem gs_ins_eq {l : List ByteArray} {s : ByteArray} {k : Nat} (hk : k ≤ l.length) : gs (l.take k ++ [s] ++ l.drop k) k = s := by
 unfold gs
 have e : (l.take k).length = k := by simp; omega
 rw [List.getD_eq_getElem?_getD, List.append_assoc, List.getElem?_append_right (by omega), e, Nat.sub_self]
 simp
theorem gs_ins_gt {l : List ByteArray} {s : ByteArray} {k j : Nat} (hk : k ≤ l.length) (h : k < j) : gs (l.take k ++ [s] ++ l.drop k) j = gs l (j - 1) := by
 unfold gs
 have e : (l.take k ++ [s]).length = k + 1 := by simp; omega
 rw [List.getD_eq_getElem?_getD, List.getD_eq_getElem?_getD, List.getElem?_append_right (by omega), e, List.getElem?_drop]
 congr 2
 omega
theorem strF_ins {l : List ByteArray} {s : ByteArray} {k : Nat} (hk : k ≤ l.length) (j c : Nat) : behindF (k + 1) (behindF k (strF l) (fun _ _ => .string s)) (fun i => strF l (k + i)) j c = strF (l.take k ++ [s] ++ l.drop k) j c := by
 rcases Nat.lt_trichotomy j k with h | h | h
 · rw [behindF_lt (by omega), behindF_lt h]
   unfold strF
   rw [gs_ins_lt hk h]
 · subst h
   rw [behindF_lt (by omega)]
   have := behindF_ge (n := j) (f := strF l) (g := fun _ _ => .string s) (k := 0) (j := c)
   rw [Nat.add_zero] at this
   rw [this]
   unfold strF
   rw [gs_ins_eq hk]
 · obtain ⟨d, rfl⟩ : ∃ d, j = k + 1 + d := ⟨j - (k + 1), by omega⟩
   rw [behindF_ge]
   unfold strF
   rw [gs_ins_gt hk (by omega)]
   congr 2
   omega

set_option maxRecDepth 100000 in
set_option maxHeartbeats 4000000 in
theorem l3Insert_own (a : Option Addr) (cap : Nat) (l : List ByteArray) (s : ByteArray) (w : World) (ho : OwnL w 9 1 a l.length (strF l)) (hl : l.length ≤ 30000) (hc : l.length ≤ cap) :
 Calls Tryz.prog 166 #[.slice a l.length cap, .string s] w fun e w' => (∃ a' c', e = .returned (.slice a' (insS l s).length c') ∧ OwnL w' 9 1 a' (insS l s).length (strF (insS l s)) ∧ (insS l s).length ≤ c' ∧ ∀ y, InSlot a' (insS l s).length y → InSlot a l.length y ∨ w.heap.size ≤ y) ∧ Below w.heap.size w w' := by
 have hm : StrsAt w a l := ho.rowAt
 obtain ⟨b, o, hab⟩ : ∃ b o, l.length ≠ 0 → a = some ⟨b, o, none⟩ := by
  by_cases h0 : l.length = 0
  · exact ⟨0, 0, fun h => absurd h0 h⟩
  · obtain ⟨b, e⟩ := ho.some_of h0
    exact ⟨b, 0, fun _ => e⟩
 go_enter Tryz.func166, Tryz.ntmps166
 go_wp2
 go_loopw [5] (fun i wr => ∃ (k : Nat) (X : World), X = wr ∧ X = w ∧ k ≤ l.length ∧ i = .int .i64 k ∧ allTo k (fun i => ltS (gs l i) s) = true) (fun i _ => l.length - (intOf i).toNat)
 case atStart => exact ⟨0, _, rfl, rfl, Nat.zero_le _, rfl, rfl⟩
 case round =>
  obtain ⟨k, X, rfl, hXw, hk, rfl, hall⟩ := hrel
  have hXw' := hXw.symm
  subst hXw'
  clear hXw
  have HA : Hid (allTo k (fun i => ltS (gs l i) s) = true) := hall
  clear hall
  have fin : (k < l.length → ltS (gs l k) s = false) → ¬ (k < l.length ∧ eqS (gs l k) s = true) → insS l s = l.take k ++ [s] ++ l.drop k := fun h1 h2 => by rw [insS_at hk HA.out h1, if_neg h2]
  by_cases hlt : k < l.length
  · have hc0 := (hm.at hlt)
    have e := hab (by omega)
    subst e
    obtain ⟨b', o', e, hb, hc0⟩ := hc0
    cases e
    have hlt2 : (k : Int) < l.length := by omega
    have hTake : ∀ W, Below w.heap.size w W → RowAt W (some ⟨b, o, none⟩) k 1 (strF l) := fun W h => (RowAt.later hm h).take hk
    have hDrop : ∀ W, Below w.heap.size w W → RowAt W (some ⟨b, o + k, none⟩) (l.length - k) 1 (fun i => strF l (k + i)) := fun W h => by
     have := (RowAt.later hm h).drop hk
     rw [Nat.mul_one] at this
     exact this
    cases hh : ltS (gs l k) s with
    | true =>
     have hq : Op.bytesLess (gs l k).toList s.toList = true := hh
     have HN : Hid (allTo (k + 1) (fun i => ltS (gs l i) s) = true) := allTo_succ HA.out hh
     clear hh fin hTake hDrop hab
     go_wp2
     go_roundw
     case rel => exact ⟨k + 1, _, rfl, rfl, by omega, by go_num, HN.out⟩
     case measure => simp [intOf]; omega
    | false =>
     have hq : Op.bytesLess (gs l k).toList s.toList = false := hh
     cases he : eqS (gs l k) s with
     | true =>
      have hq2 : ((gs l k).toList == s.toList) = true := he
      have HE : Hid (insS l s = l) := (by rw [insS_at hk HA.out (fun _ => hh), if_pos ⟨hlt, he⟩] : insS l s = l)
      clear he hh fin hTake hDrop hab
      go_wp2
      go_ret
      rw [HE.out]
      exact ⟨⟨_, cap, rfl, ho, hc, fun y hy => Or.inl hy⟩, Below.refl _ _⟩
     | false =>
      have hq2 : ((gs l k).toList == s.toList) = false := he
      have HE : Hid (insS l s = l.take k ++ [s] ++ l.drop k) := fin (fun _ => hh) (fun h => by rw [he] at h; exact absurd h.2 (by decide))
      have hkc : (k : Int) ≤ cap := by omega
      have hk0 : (0 : Int) ≤ k := by omega
      have hck : ¬ cap = k := by omega
      clear he hh fin hab
      have hS : ∀ w', Below w.heap.size w w' → (Below w.heap.size w w' ∧ w.heap.size ≤ w'.heap.size) := fun w' h => ⟨h, h.size⟩
      go_wp2_with fail
      go_region_held3 (fun w' => Below w.heap.size w w' ∧ w.heap.size ≤ w'.heap.size)
       ((refine hS _ ?_; (repeat (first | assumption | exact Below.refl _ _ | refine Below.drew ?_ | refine Below.alloc ?_ (by (try simp); (try omega)) _))))
       (first
        | (refine step_append_z (by rfl) _ _ (by rfl) sliceStr _ (by rfl) (some ⟨b, o, none⟩) k cap (strF l) (by rfl) (hTake _ (by (repeat (first | assumption | exact Below.refl _ _ | refine Below.drew ?_ | refine Below.alloc ?_ (by (try simp); (try omega)) _)))) (oneStr _) (by omega) ?_; intro d1 c1 w1 o1 p1 at1 hbA; have hb1 : RowKit.Below w.heap.size w w1 := (by refine below_next ?_ hbA; (repeat (first | assumption | exact Below.refl _ _ | refine Below.drew ?_ | refine Below.alloc ?_ (by (try simp); (try omega)) _))); have hs1 := hb1.size; have lo1 := lo_next (N := w.heap.size) at1 (fun y hy => by obtain ⟨_, h⟩ := hy; simp at h; omega) (by (try simp); (try omega)))
        | (refine step_append_w (by rfl) _ _ (by rfl) sliceStr d1 k c1 _ (by rfl) (OwnL.later o1 (by (repeat (first | assumption | exact Below.refl _ _ | refine Below.drew ?_ | refine Below.alloc ?_ (by (try simp); (try omega)) _)))) (CapW.later p1 (by (repeat (first | assumption | exact Below.refl _ _ | refine Below.drew ?_ | refine Below.alloc ?_ (by (try simp); (try omega)) _)))) (some ⟨w1.heap.size, 0, none⟩) 1 1 (fun _ _ => .string s) (by rfl) (rowAt_one (t := 9) (by (repeat (first | with_reducible exact Row.new _ _ _ | with_reducible refine Row.new' (by simp) | with_reducible refine Row.drew ?_ | with_reducible refine Row.later ?_ hbA | with_reducible refine Row.alloc ?_ _)))) (fun _ _ => rfl) (by omega) ?_; intro d2 c2 w2 o2 p2 at2 on2; have hb2 : RowKit.Below w.heap.size w w2 := (by refine below_only ?_ on2 lo1; (repeat (first | assumption | exact Below.refl _ _ | refine Below.drew ?_ | refine Below.alloc ?_ (by (try simp); (try omega)) _))); have hs2 := hb2.size; have lo2 := lo_next (N := w.heap.size) at2 lo1 (by (try simp); (try omega)))
        | (refine step_append_w (by rfl) _ _ (by rfl) sliceStr d1 k c1 _ (by rfl) (OwnL.later o1 (by (repeat (first | assumption | exact Below.refl _ _ | refine Below.drew ?_ | refine Below.alloc ?_ (by (try simp); (try omega)) _)))) (CapW.later p1 (by (repeat (first | assumption | exact Below.refl _ _ | refine Below.drew ?_ | refine Below.alloc ?_ (by (try simp); (try omega)) _)))) (some ⟨w.heap.size + 1, 0, none⟩) 1 1 (fun _ _ => .string s) (by rfl) (rowAt_one (t := 9) (by (repeat (first | with_reducible exact Row.new _ _ _ | with_reducible refine Row.new' (by simp) | with_reducible refine Row.drew ?_ | with_reducible refine Row.later ?_ hbA | with_reducible refine Row.alloc ?_ _)))) (fun _ _ => rfl) (by omega) ?_; intro d2 c2 w2 o2 p2 at2 on2; have hb2 : RowKit.Below w.heap.size w w2 := (by refine below_only ?_ on2 lo1; (repeat (first | assumption | exact Below.refl _ _ | refine Below.drew ?_ | refine Below.alloc ?_ (by (try simp); (try omega)) _))); have hs2 := hb2.size; have lo2 := lo_next (N := w.heap.size) at2 lo1 (by (try simp); (try omega)))
        | (refine step_append_w (by rfl) _ _ (by rfl) sliceStr d1 k c1 _ (by rfl) (OwnL.later o1 (by (repeat (first | assumption | exact Below.refl _ _ | refine Below.drew ?_ | refine Below.alloc ?_ (by (try simp); (try omega)) _)))) (CapW.later p1 (by (repeat (first | assumption | exact Below.refl _ _ | refine Below.drew ?_ | refine Below.alloc ?_ (by (try simp); (try omega)) _)))) (some ⟨w.heap.size, 0, none⟩) 1 1 (fun _ _ => .string s) (by rfl) (rowAt_one (t := 9) (by (repeat (first | with_reducible exact Row.new _ _ _ | with_reducible refine Row.new' (by simp) | with_reducible refine Row.drew ?_ | with_reducible refine Row.later ?_ hbA | with_reducible refine Row.alloc ?_ _)))) (fun _ _ => rfl) (by omega) ?_; intro d2 c2 w2 o2 p2 at2 on2; have hb2 : RowKit.Below w.heap.size w w2 := (by refine below_only ?_ on2 lo1; (repeat (first | assumption | exact Below.refl _ _ | refine Below.drew ?_ | refine Below.alloc ?_ (by (try simp); (try omega)) _))); have hs2 := hb2.size; have lo2 := lo_next (N := w.heap.size) at2 lo1 (by (try simp); (try omega)))
        | (refine step_append_w (by rfl) _ _ (by rfl) sliceStr d2 (k + 1) c2 _ (by rfl) (OwnL.later o2 (by (repeat (first | assumption | exact Below.refl _ _ | refine Below.drew ?_ | refine Below.alloc ?_ (by (try simp); (try omega)) _)))) (CapW.later p2 (by (repeat (first | assumption | exact Below.refl _ _ | refine Below.drew ?_ | refine Below.alloc ?_ (by (try simp); (try omega)) _)))) (some ⟨b, o + k, none⟩) (l.length - k) (cap - k) (fun i => strF l (k + i)) (by rfl) (hDrop _ (by (repeat (first | assumption | exact Below.refl _ _ | refine Below.drew ?_ | refine Below.alloc ?_ (by (try simp); (try omega)) _)))) (fun i j => oneStr l _ j) (by omega) ?_; intro d3 c3 w3 o3 p3 at3 on3; have hb3 : RowKit.Below w.heap.size w w3 := (by refine below_only ?_ on3 lo2; (repeat (first | assumption | exact Below.refl _ _ | refine Below.drew ?_ | refine Below.alloc ?_ (by (try simp); (try omega)) _))); have hs3 := hb3.size; have lo3 := lo_next (N := w.heap.size) at3 lo2 (by (try simp); (try omega))))
      all_goals
       have HL : Hid ((insS l s).length = k + 1 + (l.length - k)) := (by rw [HE.out]; simp; omega : (insS l s).length = k + 1 + (l.length - k))
       have o4 : OwnL w3 9 1 d3 (k + 1 + (l.length - k)) (strF (insS l s)) := by
        rw [HE.out]
        exact o3.congr (fun j hj c hc => strF_ins hk j c)
       have LO : Hid (∀ y, InAddr d3 y → w.heap.size ≤ y) := lo3
       have hp3 := p3.le
       rename_i hHeld
       clear hHeld hS o1 p1 at1 hbA hb1 lo1 o2 p2 at2 on2 hb2 lo2 o3 p3 at3 on3 lo3
       go_wp2
       go_ret
       rw [HL.out]
       exact ⟨⟨d3, c3, rfl, o4, hp3, fun y hy => Or.inr (LO.out y hy.2)⟩, hb3⟩
  · have hke : k = l.length := by omega
    have HE : Hid (insS l s = l.take k ++ [s] ++ l.drop k) := fin (fun h => absurd h hlt) (fun h => absurd h.1 hlt)
    have hlt2 : ¬ (k : Int) < l.length := by omega
    have hkc : (k : Int) ≤ cap := by omega
    have hk0' : (0 : Int) ≤ k := by omega
    have HKE : Hid (k = l.length) := hke
    by_cases h0 : l.length = 0
    · have hl0 : l = [] := List.eq_nil_of_length_eq_zero h0
      subst hl0
      have hk0 : k = 0 := hke
      subst hk0
      have hTake : ∀ W : World, Below w.heap.size w W → ∀ ad : Option Addr, RowAt W ad 0 1 (strF []) := fun W _ ad q hq => absurd hq (Nat.not_lt_zero _)
      have hDrop : ∀ W : World, Below w.heap.size w W → ∀ ad : Option Addr, RowAt W ad 0 1 (fun i => strF [] (0 + i)) := fun W _ ad q hq => absurd hq (Nat.not_lt_zero _)
      clear fin hab HA hke h0 HE
      cases a with
      | none =>
       have hS : ∀ w', Below w.heap.size w w' → (Below w.heap.size w w' ∧ w.heap.size ≤ w'.heap.size) := fun w' h => ⟨h, h.size⟩
       go_wp2_with fail
       go_region_held3 (fun w' => Below w.heap.size w w' ∧ w.heap.size ≤ w'.heap.size)
        ((refine hS _ ?_; (repeat (first | assumption | exact Below.refl _ _ | refine Below.drew ?_ | refine Below.alloc ?_ (by (try simp); (try omega)) _))))
        (first
         | (refine step_append_z (by rfl) _ _ (by rfl) sliceStr _ (by rfl) _ 0 _ (strF []) (by rfl) (hTake _ (by (repeat (first | assumption | exact Below.refl _ _ | refine Below.drew ?_ | refine Below.alloc ?_ (by (try simp); (try omega)) _))) _) (oneStr _) (by omega) ?_; intro d1 c1 w1 o1 p1 at1 hbA; have hb1 : RowKit.Below w.heap.size w w1 := (by refine below_next ?_ hbA; (repeat (first | assumption | exact Below.refl _ _ | refine Below.drew ?_ | refine Below.alloc ?_ (by (try simp); (try omega)) _))); have hs1 := hb1.size; have lo1 := lo_next (N := w.heap.size) at1 (fun y hy => by obtain ⟨_, h⟩ := hy; simp at h; omega) (by (try simp); (try omega)))
         | (refine step_append_w (by rfl) _ _ (by rfl) sliceStr d1 0 c1 _ (by rfl) (OwnL.later o1 (by (repeat (first | assumption | exact Below.refl _ _ | refine Below.drew ?_ | refine Below.alloc ?_ (by (try simp); (try omega)) _)))) (CapW.later p1 (by (repeat (first | assumption | exact Below.refl _ _ | refine Below.drew ?_ | refine Below.alloc ?_ (by (try simp); (try omega)) _)))) (some ⟨w1.heap.size, 0, none⟩) 1 1 (fun _ _ => .string s) (by rfl) (rowAt_one (t := 9) (by (repeat (first | with_reducible exact Row.new _ _ _ | with_reducible refine Row.new' (by simp) | with_reducible refine Row.drew ?_ | with_reducible refine Row.later ?_ hbA | with_reducible refine Row.alloc ?_ _)))) (fun _ _ => rfl) (by omega) ?_; intro d2 c2 w2 o2 p2 at2 on2; have hb2 : RowKit.Below w.heap.size w w2 := (by refine below_only ?_ on2 lo1; (repeat (first | assumption | exact Below.refl _ _ | refine Below.drew ?_ | refine Below.alloc ?_ (by (try simp); (try omega)) _))); have hs2 := hb2.size; have lo2 := lo_next (N := w.heap.size) at2 lo1 (by (try simp); (try omega)))
         | (refine step_append_w (by rfl) _ _ (by rfl) sliceStr d1 0 c1 _ (by rfl) (OwnL.later o1 (by (repeat (first | assumption | exact Below.refl _ _ | refine Below.drew ?_ | refine Below.alloc ?_ (by (try simp); (try omega)) _)))) (CapW.later p1 (by (repeat (first | assumption | exact Below.refl _ _ | refine Below.drew ?_ | refine Below.alloc ?_ (by (try simp); (try omega)) _)))) (some ⟨w.heap.size + 1, 0, none⟩) 1 1 (fun _ _ => .string s) (by rfl) (rowAt_one (t := 9) (by (repeat (first | with_reducible exact Row.new _ _ _ | with_reducible refine Row.new' (by simp) | with_reducible refine Row.drew ?_ | with_reducible refine Row.later ?_ hbA | with_reducible refine Row.alloc ?_ _)))) (fun _ _ => rfl) (by omega) ?_; intro d2 c2 w2 o2 p2 at2 on2; have hb2 : RowKit.Below w.heap.size w w2 := (by refine below_only ?_ on2 lo1; (repeat (first | assumption | exact Below.refl _ _ | refine Below.drew ?_ | refine Below.alloc ?_ (by (try simp); (try omega)) _))); have hs2 := hb2.size; have lo2 := lo_next (N := w.heap.size) at2 lo1 (by (try simp); (try omega)))
         | (refine step_append_w (by rfl) _ _ (by rfl) sliceStr d1 0 c1 _ (by rfl) (OwnL.later o1 (by (repeat (first | assumption | exact Below.refl _ _ | refine Below.drew ?_ | refine Below.alloc ?_ (by (try simp); (try omega)) _)))) (CapW.later p1 (by (repeat (first | assumption | exact Below.refl _ _ | refine Below.drew ?_ | refine Below.alloc ?_ (by (try simp); (try omega)) _)))) (some ⟨w.heap.size, 0, none⟩) 1 1 (fun _ _ => .string s) (by rfl) (rowAt_one (t := 9) (by (repeat (first | with_reducible exact Row.new _ _ _ | with_reducible refine Row.new' (by simp) | with_reducible refine Row.drew ?_ | with_reducible refine Row.later ?_ hbA | with_reducible refine Row.alloc ?_ _)))) (fun _ _ => rfl) (by omega) ?_; intro d2 c2 w2 o2 p2 at2 on2; have hb2 : RowKit.Below w.heap.size w w2 := (by refine below_only ?_ on2 lo1; (repeat (first | assumption | exact Below.refl _ _ | refine Below.drew ?_ | refine Below.alloc ?_ (by (try simp); (try omega)) _))); have hs2 := hb2.size; have lo2 := lo_next (N := w.heap.size) at2 lo1 (by (try simp); (try omega)))
         | (refine step_append_w (by rfl) _ _ (by rfl) sliceStr d2 1 c2 _ (by rfl) (OwnL.later o2 (by (repeat (first | assumption | exact Below.refl _ _ | refine Below.drew ?_ | refine Below.alloc ?_ (by (try simp); (try omega)) _)))) (CapW.later p2 (by (repeat (first | assumption | exact Below.refl _ _ | refine Below.drew ?_ | refine Below.alloc ?_ (by (try simp); (try omega)) _)))) _ 0 _ (fun i => strF [] (0 + i)) (by rfl) (hDrop _ (by (repeat (first | assumption | exact Below.refl _ _ | refine Below.drew ?_ | refine Below.alloc ?_ (by (try simp); (try omega)) _))) _) (fun i j => oneStr [] _ j) (by omega) ?_; intro d3 c3 w3 o3 p3 at3 on3; have hb3 : RowKit.Below w.heap.size w w3 := (by refine below_only ?_ on3 lo2; (repeat (first | assumption | exact Below.refl _ _ | refine Below.drew ?_ | refine Below.alloc ?_ (by (try simp); (try omega)) _))); have hs3 := hb3.size; have lo3 := lo_next (N := w.heap.size) at3 lo2 (by (try simp); (try omega))))
       all_goals
        have o4 : OwnL w3 9 1 d3 1 (strF (insS [] s)) := o3.congr (fun j hj c hc => by
         have : j = 0 := by omega
         subst this
         rfl)
        have LO : Hid (∀ y, InAddr d3 y → w.heap.size ≤ y) := lo3
        have hp3 := p3.le
        rename_i hHeld
        clear hHeld hS o1 p1 at1 hbA hb1 lo1 o2 p2 at2 on2 hb2 lo2 o3 p3 at3 on3 lo3
        go_wp2
        go_ret
        exact ⟨⟨d3, c3, rfl, o4, hp3, fun y hy => Or.inr (LO.out y hy.2)⟩, hb3⟩
      | some ad =>
       have hS : ∀ w', Below w.heap.size w w' → (Below w.heap.size w w' ∧ w.heap.size ≤ w'.heap.size) := fun w' h => ⟨h, h.size⟩
       go_wp2_with fail
       go_region_held3 (fun w' => Below w.heap.size w w' ∧ w.heap.size ≤ w'.heap.size)
        ((refine hS _ ?_; (repeat (first | assumption | exact Below.refl _ _ | refine Below.drew ?_ | refine Below.alloc ?_ (by (try simp); (try omega)) _))))
        (first
         | (refine step_append_z (by rfl) _ _ (by rfl) sliceStr _ (by rfl) _ 0 _ (strF []) (by rfl) (hTake _ (by (repeat (first | assumption | exact Below.refl _ _ | refine Below.drew ?_ | refine Below.alloc ?_ (by (try simp); (try omega)) _))) _) (oneStr _) (by omega) ?_; intro d1 c1 w1 o1 p1 at1 hbA; have hb1 : RowKit.Below w.heap.size w w1 := (by refine below_next ?_ hbA; (repeat (first | assumption | exact Below.refl _ _ | refine Below.drew ?_ | refine Below.alloc ?_ (by (try simp); (try omega)) _))); have hs1 := hb1.size; have lo1 := lo_next (N := w.heap.size) at1 (fun y hy => by obtain ⟨_, h⟩ := hy; simp at h; omega) (by (try simp); (try omega)))
         | (refine step_append_w (by rfl) _ _ (by rfl) sliceStr d1 0 c1 _ (by rfl) (OwnL.later o1 (by (repeat (first | assumption | exact Below.refl _ _ | refine Below.drew ?_ | refine Below.alloc ?_ (by (try simp); (try omega)) _)))) (CapW.later p1 (by (repeat (first | assumption | exact Below.refl _ _ | refine Below.drew ?_ | refine Below.alloc ?_ (by (try simp); (try omega)) _)))) (some ⟨w1.heap.size, 0, none⟩) 1 1 (fun _ _ => .string s) (by rfl) (rowAt_one (t := 9) (by (repeat (first | with_reducible exact Row.new _ _ _ | with_reducible refine Row.new' (by simp) | with_reducible refine Row.drew ?_ | with_reducible refine Row.later ?_ hbA | with_reducible refine Row.alloc ?_ _)))) (fun _ _ => rfl) (by omega) ?_; intro d2 c2 w2 o2 p2 at2 on2; have hb2 : RowKit.Below w.heap.size w w2 := (by refine below_only ?_ on2 lo1; (repeat (first | assumption | exact Below.refl _ _ | refine Below.drew ?_ | refine Below.alloc ?_ (by (try simp); (try omega)) _))); have hs2 := hb2.size; have lo2 := lo_next (N := w.heap.size) at2 lo1 (by (try simp); (try omega)))
         | (refine step_append_w (by rfl) _ _ (by rfl) sliceStr d1 0 c1 _ (by rfl) (OwnL.later o1 (by (repeat (first | assumption | exact Below.refl _ _ | refine Below.drew ?_ | refine Below.alloc ?_ (by (try simp); (try omega)) _)))) (CapW.later p1 (by (repeat (first | assumption | exact Below.refl _ _ | refine Below.drew ?_ | refine Below.alloc ?_ (by (try simp); (try omega)) _)))) (some ⟨w.heap.size + 1, 0, none⟩) 1 1 (fun _ _ => .string s) (by rfl) (rowAt_one (t := 9) (by (repeat (first | with_reducible exact Row.new _ _ _ | with_reducible refine Row.new' (by simp) | with_reducible refine Row.drew ?_ | with_reducible refine Row.later ?_ hbA | with_reducible refine Row.alloc ?_ _)))) (fun _ _ => rfl) (by omega) ?_; intro d2 c2 w2 o2 p2 at2 on2; have hb2 : RowKit.Below w.heap.size w w2 := (by refine below_only ?_ on2 lo1; (repeat (first | assumption | exact Below.refl _ _ | refine Below.drew ?_ | refine Below.alloc ?_ (by (try simp); (try omega)) _))); have hs2 := hb2.size; have lo2 := lo_next (N := w.heap.size) at2 lo1 (by (try simp); (try omega)))
         | (refine step_append_w (by rfl) _ _ (by rfl) sliceStr d1 0 c1 _ (by rfl) (OwnL.later o1 (by (repeat (first | assumption | exact Below.refl _ _ | refine Below.drew ?_ | refine Below.alloc ?_ (by (try simp); (try omega)) _)))) (CapW.later p1 (by (repeat (first | assumption | exact Below.refl _ _ | refine Below.drew ?_ | refine Below.alloc ?_ (by (try simp); (try omega)) _)))) (some ⟨w.heap.size, 0, none⟩) 1 1 (fun _ _ => .string s) (by rfl) (rowAt_one (t := 9) (by (repeat (first | with_reducible exact Row.new _ _ _ | with_reducible refine Row.new' (by simp) | with_reducible refine Row.drew ?_ | with_reducible refine Row.later ?_ hbA | with_reducible refine Row.alloc ?_ _)))) (fun _ _ => rfl) (by omega) ?_; intro d2 c2 w2 o2 p2 at2 on2; have hb2 : RowKit.Below w.heap.size w w2 := (by refine below_only ?_ on2 lo1; (repeat (first | assumption | exact Below.refl _ _ | refine Below.drew ?_ | refine Below.alloc ?_ (by (try simp); (try omega)) _))); have hs2 := hb2.size; have lo2 := lo_next (N := w.heap.size) at2 lo1 (by (try simp); (try omega)))
         | (refine step_append_w (by rfl) _ _ (by rfl) sliceStr d2 1 c2 _ (by rfl) (OwnL.later o2 (by (repeat (first | assumption | exact Below.refl _ _ | refine Below.drew ?_ | refine Below.alloc ?_ (by (try simp); (try omega)) _)))) (CapW.later p2 (by (repeat (first | assumption | exact Below.refl _ _ | refine Below.drew ?_ | refine Below.alloc ?_ (by (try simp); (try omega)) _)))) _ 0 _ (fun i => strF [] (0 + i)) (by rfl) (hDrop _ (by (repeat (first | assumption | exact Below.refl _ _ | refine Below.drew ?_ | refine Below.alloc ?_ (by (try simp); (try omega)) _))) _) (fun i j => oneStr [] _ j) (by omega) ?_; intro d3 c3 w3 o3 p3 at3 on3; have hb3 : RowKit.Below w.heap.size w w3 := (by refine below_only ?_ on3 lo2; (repeat (first | assumption | exact Below.refl _ _ | refine Below.drew ?_ | refine Below.alloc ?_ (by (try simp); (try omega)) _))); have hs3 := hb3.size; have lo3 := lo_next (N := w.heap.size) at3 lo2 (by (try simp); (try omega))))
       all_goals
        have o4 : OwnL w3 9 1 d3 1 (strF (insS [] s)) := o3.congr (fun j hj c hc => by
         have : j = 0 := by omega
         subst this
         rfl)
        have LO : Hid (∀ y, InAddr d3 y → w.heap.size ≤ y) := lo3
        have hp3 := p3.le
        rename_i hHeld
        clear hHeld hS o1 p1 at1 hbA hb1 lo1 o2 p2 at2 on2 hb2 lo2 o3 p3 at3 on3 lo3
        go_wp2
        go_ret
        exact ⟨⟨d3, c3, rfl, o4, hp3, fun y hy => Or.inr (LO.out y hy.2)⟩, hb3⟩
    · have e := hab h0
      subst e
      have hTake : ∀ W, Below w.heap.size w W → RowAt W (some ⟨b, o, none⟩) k 1 (strF l) := fun W h => (RowAt.later hm h).take hk
      have hDrop : ∀ W : World, Below w.heap.size w W → ∀ ad : Option Addr, RowAt W ad (l.length - k) 1 (fun i => strF l (k + i)) := fun W _ ad q hq => by have := HKE.out; omega
      clear fin hab HA hke
      by_cases hck : cap = k
      · have hS : ∀ w', Below w.heap.size w w' → (Below w.heap.size w w' ∧ w.heap.size ≤ w'.heap.size) := fun w' h => ⟨h, h.size⟩
        go_wp2_with fail
        go_region_held3 (fun w' => Below w.heap.size w w' ∧ w.heap.size ≤ w'.heap.size)
         ((refine hS _ ?_; (repeat (first | assumption | exact Below.refl _ _ | refine Below.drew ?_ | refine Below.alloc ?_ (by (try simp); (try omega)) _))))
         (first
          | (refine step_append_z (by rfl) _ _ (by rfl) sliceStr _ (by rfl) (some ⟨b, o, none⟩) k _ (strF l) (by rfl) (hTake _ (by (repeat (first | assumption | exact Below.refl _ _ | refine Below.drew ?_ | refine Below.alloc ?_ (by (try simp); (try omega)) _)))) (oneStr _) (by omega) ?_; intro d1 c1 w1 o1 p1 at1 hbA; have hb1 : RowKit.Below w.heap.size w w1 := (by refine below_next ?_ hbA; (repeat (first | assumption | exact Below.refl _ _ | refine Below.drew ?_ | refine Below.alloc ?_ (by (try simp); (try omega)) _))); have hs1 := hb1.size; have lo1 := lo_next (N := w.heap.size) at1 (fun y hy => by obtain ⟨_, h⟩ := hy; simp at h; omega) (by (try simp); (try omega)))
          | (refine step_append_w (by rfl) _ _ (by rfl) sliceStr d1 k c1 _ (by rfl) (OwnL.later o1 (by (repeat (first | assumption | exact Below.refl _ _ | refine Below.drew ?_ | refine Below.alloc ?_ (by (try simp); (try omega)) _)))) (CapW.later p1 (by (repeat (first | assumption | exact Below.refl _ _ | refine Below.drew ?_ | refine Below.alloc ?_ (by (try simp); (try omega)) _)))) (some ⟨w1.heap.size, 0, none⟩) 1 1 (fun _ _ => .string s) (by rfl) (rowAt_one (t := 9) (by (repeat (first | with_reducible exact Row.new _ _ _ | with_reducible refine Row.new' (by simp) | with_reducible refine Row.drew ?_ | with_reducible refine Row.later ?_ hbA | with_reducible refine Row.alloc ?_ _)))) (fun _ _ => rfl) (by omega) ?_; intro d2 c2 w2 o2 p2 at2 on2; have hb2 : RowKit.Below w.heap.size w w2 := (by refine below_only ?_ on2 lo1; (repeat (first | assumption | exact Below.refl _ _ | refine Below.drew ?_ | refine Below.alloc ?_ (by (try simp); (try omega)) _))); have hs2 := hb2.size; have lo2 := lo_next (N := w.heap.size) at2 lo1 (by (try simp); (try omega)))
          | (refine step_append_w (by rfl) _ _ (by rfl) sliceStr d1 k c1 _ (by rfl) (OwnL.later o1 (by (repeat (first | assumption | exact Below.refl _ _ | refine Below.drew ?_ | refine Below.alloc ?_ (by (try simp); (try omega)) _)))) (CapW.later p1 (by (repeat (first | assumption | exact Below.refl _ _ | refine Below.drew ?_ | refine Below.alloc ?_ (by (try simp); (try omega)) _)))) (some ⟨w.heap.size + 1, 0, none⟩) 1 1 (fun _ _ => .string s) (by rfl) (rowAt_one (t := 9) (by (repeat (first | with_reducible exact Row.new _ _ _ | with_reducible refine Row.new' (by simp) | with_reducible refine Row.drew ?_ | with_reducible refine Row.later ?_ hbA | with_reducible refine Row.alloc ?_ _)))) (fun _ _ => rfl) (by omega) ?_; intro d2 c2 w2 o2 p2 at2 on2; have hb2 : RowKit.Below w.heap.size w w2 := (by refine below_only ?_ on2 lo1; (repeat (first | assumption | exact Below.refl _ _ | refine Below.drew ?_ | refine Below.alloc ?_ (by (try simp); (try omega)) _))); have hs2 := hb2.size; have lo2 := lo_next (N := w.heap.size) at2 lo1 (by (try simp); (try omega)))
          | (refine step_append_w (by rfl) _ _ (by rfl) sliceStr d1 k c1 _ (by rfl) (OwnL.later o1 (by (repeat (first | assumption | exact Below.refl _ _ | refine Below.drew ?_ | refine Below.alloc ?_ (by (try simp); (try omega)) _)))) (CapW.later p1 (by (repeat (first | assumption | exact Below.refl _ _ | refine Below.drew ?_ | refine Below.alloc ?_ (by (try simp); (try omega)) _)))) (some ⟨w.heap.size, 0, none⟩) 1 1 (fun _ _ => .string s) (by rfl) (rowAt_one (t := 9) (by (repeat (first | with_reducible exact Row.new _ _ _ | with_reducible refine Row.new' (by simp) | with_reducible refine Row.drew ?_ | with_reducible refine Row.later ?_ hbA | with_reducible refine Row.alloc ?_ _)))) (fun _ _ => rfl) (by omega) ?_; intro d2 c2 w2 o2 p2 at2 on2; have hb2 : RowKit.Below w.heap.size w w2 := (by refine below_only ?_ on2 lo1; (repeat (first | assumption | exact Below.refl _ _ | refine Below.drew ?_ | refine Below.alloc ?_ (by (try simp); (try omega)) _))); have hs2 := hb2.size; have lo2 := lo_next (N := w.heap.size) at2 lo1 (by (try simp); (try omega)))
          | (refine step_append_w (by rfl) _ _ (by rfl) sliceStr d2 (k + 1) c2 _ (by rfl) (OwnL.later o2 (by (repeat (first | assumption | exact Below.refl _ _ | refine Below.drew ?_ | refine Below.alloc ?_ (by (try simp); (try omega)) _)))) (CapW.later p2 (by (repeat (first | assumption | exact Below.refl _ _ | refine Below.drew ?_ | refine Below.alloc ?_ (by (try simp); (try omega)) _)))) _ (l.length - k) _ (fun i => strF l (k + i)) (by rfl) (hDrop _ (by (repeat (first | assumption | exact Below.refl _ _ | refine Below.drew ?_ | refine Below.alloc ?_ (by (try simp); (try omega)) _))) _) (fun i j => oneStr l _ j) (by omega) ?_; intro d3 c3 w3 o3 p3 at3 on3; have hb3 : RowKit.Below w.heap.size w w3 := (by refine below_only ?_ on3 lo2; (repeat (first | assumption | exact Below.refl _ _ | refine Below.drew ?_ | refine Below.alloc ?_ (by (try simp); (try omega)) _))); have hs3 := hb3.size; have lo3 := lo_next (N := w.heap.size) at3 lo2 (by (try simp); (try omega))))
        all_goals
         have HL : Hid ((insS l s).length = k + 1 + (l.length - k)) := (by rw [HE.out]; simp; omega : (insS l s).length = k + 1 + (l.length - k))
         have o4 : OwnL w3 9 1 d3 (k + 1 + (l.length - k)) (strF (insS l s)) := by
          rw [HE.out]
          exact o3.congr (fun j hj c hc => strF_ins hk j c)
         have LO : Hid (∀ y, InAddr d3 y → w.heap.size ≤ y) := lo3
         have hp3 := p3.le
         rename_i hHeld
         clear hHeld hS o1 p1 at1 hbA hb1 lo1 o2 p2 at2 on2 hb2 lo2 o3 p3 at3 on3 lo3
         go_wp2
         go_ret
         rw [HL.out]
         exact ⟨⟨d3, c3, rfl, o4, hp3, fun y hy => Or.inr (LO.out y hy.2)⟩, hb3⟩
      · have hS : ∀ w', Below w.heap.size w w' → (Below w.heap.size w w' ∧ w.heap.size ≤ w'.heap.size) := fun w' h => ⟨h, h.size⟩
        go_wp2_with fail
        go_region_held3 (fun w' => Below w.heap.size w w' ∧ w.heap.size ≤ w'.heap.size)
         ((refine hS _ ?_; (repeat (first | assumption | exact Below.refl _ _ | refine Below.drew ?_ | refine Below.alloc ?_ (by (try simp); (try omega)) _))))
         (first
          | (refine step_append_z (by rfl) _ _ (by rfl) sliceStr _ (by rfl) (some ⟨b, o, none⟩) k _ (strF l) (by rfl) (hTake _ (by (repeat (first | assumption | exact Below.refl _ _ | refine Below.drew ?_ | refine Below.alloc ?_ (by (try simp); (try omega)) _)))) (oneStr _) (by omega) ?_; intro d1 c1 w1 o1 p1 at1 hbA; have hb1 : RowKit.Below w.heap.size w w1 := (by refine below_next ?_ hbA; (repeat (first | assumption | exact Below.refl _ _ | refine Below.drew ?_ | refine Below.alloc ?_ (by (try simp); (try omega)) _))); have hs1 := hb1.size; have lo1 := lo_next (N := w.heap.size) at1 (fun y hy => by obtain ⟨_, h⟩ := hy; simp at h; omega) (by (try simp); (try omega)))
          | (refine step_append_w (by rfl) _ _ (by rfl) sliceStr d1 k c1 _ (by rfl) (OwnL.later o1 (by (repeat (first | assumption | exact Below.refl _ _ | refine Below.drew ?_ | refine Below.alloc ?_ (by (try simp); (try omega)) _)))) (CapW.later p1 (by (repeat (first | assumption | exact Below.refl _ _ | refine Below.drew ?_ | refine Below.alloc ?_ (by (try simp); (try omega)) _)))) (some ⟨w1.heap.size, 0, none⟩) 1 1 (fun _ _ => .string s) (by rfl) (rowAt_one (t := 9) (by (repeat (first | with_reducible exact Row.new _ _ _ | with_reducible refine Row.new' (by simp) | with_reducible refine Row.drew ?_ | with_reducible refine Row.later ?_ hbA | with_reducible refine Row.alloc ?_ _)))) (fun _ _ => rfl) (by omega) ?_; intro d2 c2 w2 o2 p2 at2 on2; have hb2 : RowKit.Below w.heap.size w w2 := (by refine below_only ?_ on2 lo1; (repeat (first | assumption | exact Below.refl _ _ | refine Below.drew ?_ | refine Below.alloc ?_ (by (try simp); (try omega)) _))); have hs2 := hb2.size; have lo2 := lo_next (N := w.heap.size) at2 lo1 (by (try simp); (try omega)))
          | (refine step_append_w (by rfl) _ _ (by rfl) sliceStr d1 k c1 _ (by rfl) (OwnL.later o1 (by (repeat (first | assumption | exact Below.refl _ _ | refine Below.drew ?_ | refine Below.alloc ?_ (by (try simp); (try omega)) _)))) (CapW.later p1 (by (repeat (first | assumption | exact Below.refl _ _ | refine Below.drew ?_ | refine Below.alloc ?_ (by (try simp); (try omega)) _)))) (some ⟨w.heap.size + 1, 0, none⟩) 1 1 (fun _ _ => .string s) (by rfl) (rowAt_one (t := 9) (by (repeat (first | with_reducible exact Row.new _ _ _ | with_reducible refine Row.new' (by simp) | with_reducible refine Row.drew ?_ | with_reducible refine Row.later ?_ hbA | with_reducible refine Row.alloc ?_ _)))) (fun _ _ => rfl) (by omega) ?_; intro d2 c2 w2 o2 p2 at2 on2; have hb2 : RowKit.Below w.heap.size w w2 := (by refine below_only ?_ on2 lo1; (repeat (first | assumption | exact Below.refl _ _ | refine Below.drew ?_ | refine Below.alloc ?_ (by (try simp); (try omega)) _))); have hs2 := hb2.size; have lo2 := lo_next (N := w.heap.size) at2 lo1 (by (try simp); (try omega)))
          | (refine step_append_w (by rfl) _ _ (by rfl) sliceStr d1 k c1 _ (by rfl) (OwnL.later o1 (by (repeat (first | assumption | exact Below.refl _ _ | refine Below.drew ?_ | refine Below.alloc ?_ (by (try simp); (try omega)) _)))) (CapW.later p1 (by (repeat (first | assumption | exact Below.refl _ _ | refine Below.drew ?_ | refine Below.alloc ?_ (by (try simp); (try omega)) _)))) (some ⟨w.heap.size, 0, none⟩) 1 1 (fun _ _ => .string s) (by rfl) (rowAt_one (t := 9) (by (repeat (first | with_reducible exact Row.new _ _ _ | with_reducible refine Row.new' (by simp) | with_reducible refine Row.drew ?_ | with_reducible refine Row.later ?_ hbA | with_reducible refine Row.alloc ?_ _)))) (fun _ _ => rfl) (by omega) ?_; intro d2 c2 w2 o2 p2 at2 on2; have hb2 : RowKit.Below w.heap.size w w2 := (by refine below_only ?_ on2 lo1; (repeat (first | assumption | exact Below.refl _ _ | refine Below.drew ?_ | refine Below.alloc ?_ (by (try simp); (try omega)) _))); have hs2 := hb2.size; have lo2 := lo_next (N := w.heap.size) at2 lo1 (by (try simp); (try omega)))
          | (refine step_append_w (by rfl) _ _ (by rfl) sliceStr d2 (k + 1) c2 _ (by rfl) (OwnL.later o2 (by (repeat (first | assumption | exact Below.refl _ _ | refine Below.drew ?_ | refine Below.alloc ?_ (by (try simp); (try omega)) _)))) (CapW.later p2 (by (repeat (first | assumption | exact Below.refl _ _ | refine Below.drew ?_ | refine Below.alloc ?_ (by (try simp); (try omega)) _)))) _ (l.length - k) _ (fun i => strF l (k + i)) (by rfl) (hDrop _ (by (repeat (first | assumption | exact Below.refl _ _ | refine Below.drew ?_ | refine Below.alloc ?_ (by (try simp); (try omega)) _))) _) (fun i j => oneStr l _ j) (by omega) ?_; intro d3 c3 w3 o3 p3 at3 on3; have hb3 : RowKit.Below w.heap.size w w3 := (by refine below_only ?_ on3 lo2; (repeat (first | assumption | exact Below.refl _ _ | refine Below.drew ?_ | refine Below.alloc ?_ (by (try simp); (try omega)) _))); have hs3 := hb3.size; have lo3 := lo_next (N := w.heap.size) at3 lo2 (by (try simp); (try omega))))
        all_goals
         have HL : Hid ((insS l s).length = k + 1 + (l.length - k)) := (by rw [HE.out]; simp; omega : (insS l s).length = k + 1 + (l.length - k))
         have o4 : OwnL w3 9 1 d3 (k + 1 + (l.length - k)) (strF (insS l s)) := by
          rw [HE.out]
          exact o3.congr (fun j hj c hc => strF_ins hk j c)
         have LO : Hid (∀ y, InAddr d3 y → w.heap.size ≤ y) := lo3
         have hp3 := p3.le
         rename_i hHeld
         clear hHeld hS o1 p1 at1 hbA hb1 lo1 o2 p2 at2 on2 hb2 lo2 o3 p3 at3 on3 lo3
         go_wp2
         go_ret
         rw [HL.out]
         exact ⟨⟨d3, c3, rfl, o4, hp3, fun y hy => Or.inr (LO.out y hy.2)⟩, hb3⟩

end Go.Proofs.YtfmhkicncgccjaaGreat

