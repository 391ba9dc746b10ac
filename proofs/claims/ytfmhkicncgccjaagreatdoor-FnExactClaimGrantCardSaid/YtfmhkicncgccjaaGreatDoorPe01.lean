/- Joined: GpA, GrM1, GrM2, GrM4, GrM6, GrM7, GrM9, GrMA, OwSz. -/
import Derived.Test.YtfmhkicncgccjaaGreatDoorPc01
import Derived.Lib.SlBytesRow
import Derived.Deep.RegionHeld3
import Derived.Test.YtfmhkicncgccjaaGreatDoorPc04
/- Plain: a name put into an ascending list. -/
namespace Go.Proofs.YtfmhkicncgccjaaGreatDoor
open Go.RowKit
set_option linter.unusedSimpArgs false
set_option linter.unusedVariables false

def insS : List ByteArray → ByteArray → List ByteArray
  | [], s => [s]
  | a :: t, s => if ltS a s = true then a :: insS t s else if eqS a s = true then a :: t else s :: a :: t
theorem gs_cons_succ (a : ByteArray) (t : List ByteArray) (k : Nat) : gs (a :: t) (k + 1) = gs t k := by simp [gs]
theorem gs_cons_zero (a : ByteArray) (t : List ByteArray) : gs (a :: t) 0 = a := by simp [gs]
theorem insS_at : ∀ {l : List ByteArray} {s : ByteArray} {k : Nat}, k ≤ l.length → allTo k (fun i => ltS (gs l i) s) = true → (k < l.length → ltS (gs l k) s = false) →
    insS l s = if k < l.length ∧ eqS (gs l k) s = true then l else l.take k ++ [s] ++ l.drop k
  | [], s, k, hk, _, _ => by
    have : k = 0 := by simpa using hk
    subst this
    simp [insS]
  | a :: t, s, 0, _, _, h2 => by
    have h := h2 (by simp)
    rw [gs_cons_zero] at h
    unfold insS
    rw [h]
    simp only [Bool.false_eq_true, if_false, gs_cons_zero]
    by_cases e : eqS a s = true
    · rw [if_pos e, if_pos ⟨by simp, e⟩]
    · rw [if_neg e, if_neg (fun h => e h.2)]
      simp
  | a :: t, s, k + 1, hk, h1, h2 => by
    have ha : ltS a s = true := by
      have := allTo_iff.1 h1 0 (by omega)
      rw [gs_cons_zero] at this
      exact this
    have ih := insS_at (l := t) (s := s) (k := k) (by simpa using hk) (allTo_iff.2 fun i hi => by
      have := allTo_iff.1 h1 (i + 1) (by omega)
      rw [gs_cons_succ] at this
      exact this) (fun hlt => by
      have := h2 (by simpa using hlt)
      rw [gs_cons_succ] at this
      exact this)
    unfold insS
    rw [if_pos ha, ih, gs_cons_succ]
    by_cases e : k < t.length ∧ eqS (gs t k) s = true
    · rw [if_pos e, if_pos ⟨by simpa using e.1, e.2⟩]
    · rw [if_neg e, if_neg (fun h => e ⟨by simpa using h.1, h.2⟩)]
      simp
theorem insS_length (l : List ByteArray) (s : ByteArray) : (insS l s).length ≤ l.length + 1 := by
  induction l with
  | nil => simp [insS]
  | cons a t ih =>
    unfold insS
    split
    · simp; omega
    · split <;> simp
/-- Some names put in, one after the other. -/
def insTo (l ss : List ByteArray) (k : Nat) : List ByteArray := (ss.take k).foldl insS l
theorem insTo_zero (l ss : List ByteArray) : insTo l ss 0 = l := by simp [insTo]
theorem insTo_succ {l ss : List ByteArray} {k : Nat} (h : k < ss.length) : insTo l ss (k + 1) = insS (insTo l ss k) (gs ss k) := by
  unfold insTo
  rw [List.take_succ_eq_append_getElem h, List.foldl_append, gs_lt h]
  rfl
theorem insTo_length (l ss : List ByteArray) : ∀ k, (insTo l ss k).length ≤ l.length + k
  | 0 => by simp [insTo]
  | k + 1 => by
    by_cases h : k < ss.length
    · rw [insTo_succ h]
      have := insS_length (insTo l ss k) (gs ss k)
      have := insTo_length l ss k
      omega
    · have e : insTo l ss (k + 1) = insTo l ss k := by
        unfold insTo
        rw [List.take_of_length_le (by omega), List.take_of_length_le (by omega)]
      rw [e]
      have := insTo_length l ss k
      omega

end Go.Proofs.YtfmhkicncgccjaaGreatDoor

/- What the laws' markText answers: a text that its number alone tells. -/
namespace Go.Proofs.YtfmhkicncgccjaaGreatDoor
open Go.RowKit Go.Sort
set_option linter.unusedSimpArgs false
set_option linter.unusedVariables false

/-- The digits of n ahead of out. -/
def digs : Nat → Nat → ByteArray → ByteArray
  | 0, _, out => out
  | f + 1, n, out => if n = 0 then out else digs f (n / 10) (⟨#[UInt8.ofNat (48 + n % 10)]⟩ ++ out)
/-- The mark of k. -/
def markT (k : Int) : ByteArray := if k ≤ 0 then ⟨#[109, 48]⟩ else ⟨#[109]⟩ ++ digs 19 k.toNat ⟨#[]⟩

theorem digs_zero (f : Nat) (out : ByteArray) : digs f 0 out = out := by
  cases f <;> simp [digs]
theorem digs_next {f n : Nat} (h : n ≠ 0) (out : ByteArray) : digs (f + 1) n out = digs f (n / 10) (⟨#[UInt8.ofNat (48 + n % 10)]⟩ ++ out) := by
  simp [digs, h]

set_option maxRecDepth 100000 in
set_option maxHeartbeats 2000000 in
theorem markText_any (k : Int) (h1 : k ≤ 1000000000) (w : World) :
    Calls Tryz.prog 96 #[.int .i64 k] w fun e w' => e = .returned (.string (markT k)) ∧ Below w.heap.size w w' := by
  go_enter Tryz.func96, Tryz.ntmps96
  by_cases hk : k ≤ 0
  · go_wp2
    go_ret
    exact ⟨by simp [markT, hk], Below.refl _ _⟩
  · go_wp2
    go_loopw [0, 3] (fun i o wv => ∃ (f n : Nat) (out : ByteArray) (X : World), X = wv ∧ i = .int .i64 n ∧ o = .string out ∧ n < 10 ^ f ∧ (n : Int) ≤ 1000000000 ∧ f ≤ 19 ∧ out.size ≤ 19 - f ∧ digs f n out = digs 19 k.toNat ⟨#[]⟩ ∧ Below w.heap.size w X) (fun i _ _ => (intOf i).toNat)
    case atStart => exact ⟨19, k.toNat, _, _, rfl, by rw [Int.toNat_of_nonneg (by omega)], rfl, by omega, by omega, by omega, by simp [ByteArray.size], rfl, Below.refl _ _⟩
    case round =>
      obtain ⟨f, n, out, X, rfl, rfl, rfl, hn, hn9, hf, hs, hd, hb⟩ := hrel
      by_cases h0 : n = 0
      · subst h0
        go_wp2
        go_ret
        rw [digs_zero] at hd
        refine ⟨?_, hb⟩
        rw [markT, if_neg (by omega), ← hd]
        rfl
      · have hpos : (0 : Int) < n := by omega
        obtain ⟨f, rfl⟩ : ∃ g, f = g + 1 := by
          cases f with
          | zero => simp at hn; omega
          | succ g => exact ⟨g, rfl⟩
        have hm : n % 10 < 10 := Nat.mod_lt _ (by omega)
        have hcv : (convert 154 9 (.slice (some ⟨X.heap.size, 0, none⟩) 1 1)).run Tryz.prog (X.alloc (.cells #[.int .u8 (48 + (n : Int) % 10)] 5)) = .ok (.string ⟨#[UInt8.ofNat (48 + n % 10)]⟩) (X.alloc (.cells #[.int .u8 (48 + (n : Int) % 10)] 5)) :=
          Lib.run_convert_whole (P := Tryz.prog) _ 154 5 9 Tryz.underlying154 Tryz.underlying5 Tryz.underlying9 X.heap.size 0 ⟨#[UInt8.ofNat (48 + n % 10)]⟩ (fun i hi => by
            obtain rfl : i = 0 := by have : i < 1 := hi; omega
            have e : (UInt8.ofNat (48 + n % 10)).toNat = 48 + n % 10 := by simp; omega
            rw [World.cell?_alloc_new]
            show some (Value.int .u8 (48 + (n : Int) % 10)) = some (Value.int .u8 ((UInt8.ofNat (48 + n % 10)).toNat : Int))
            rw [e]
            simp) 1
        rw [digs_next h0] at hd
        generalize UInt8.ofNat (48 + n % 10) = dg at hcv hd
        go_wp2
        go_roundw
        case rel =>
          refine ⟨f, n / 10, _, _, rfl, by go_num, rfl, ?_, by omega, by omega, ?_, hd, hb.alloc hb.size _⟩
          · rw [Nat.pow_succ] at hn; omega
          · rw [ByteArray.size_append]
            have : (ByteArray.mk #[dg]).size = 1 := rfl
            omega
        case measure => simp [intOf]; omega

end Go.Proofs.YtfmhkicncgccjaaGreatDoor

/- Marks written into a list of texts, and held there. -/
namespace Go.Proofs.YtfmhkicncgccjaaGreatDoor
open Go.RowKit Go.Sort
set_option linter.unusedSimpArgs false
set_option linter.unusedVariables false

/-- The world behind w in which only blocks of B, and new ones, may have changed. -/
structure Only (B : Nat → Prop) (w w' : World) : Prop where
  os : w'.os = w.os
  tape : w'.tape = w.tape
  output : w'.output = w.output
  size : w.heap.size ≤ w'.heap.size
  block : ∀ k, k < w.heap.size → ¬ B k → w'.heap[k]? = w.heap[k]?
theorem Only.refl (B : Nat → Prop) (w : World) : Only B w w := ⟨rfl, rfl, rfl, Nat.le_refl _, fun _ _ _ => rfl⟩
theorem Only.trans {B : Nat → Prop} {w w1 w2 : World} (h : Only B w w1) (h' : Only B w1 w2) : Only B w w2 :=
  ⟨h'.os.trans h.os, h'.tape.trans h.tape, h'.output.trans h.output, Nat.le_trans h.size h'.size, fun k hk hB => (h'.block k (Nat.lt_of_lt_of_le hk h.size) hB).trans (h.block k hk hB)⟩
theorem Only.of {B : Nat → Prop} {w w' : World} (h : Below w.heap.size w w') : Only B w w' := ⟨h.os, h.tape, h.output, h.size, fun k hk _ => h.block k hk⟩
theorem Only.mono {B B' : Nat → Prop} {w w' : World} (h : Only B w w') (hB : ∀ k, B k → B' k) : Only B' w w' := ⟨h.os, h.tape, h.output, h.size, fun k hk hn => h.block k hk fun hb => hn (hB k hb)⟩
theorem Only.below {B : Nat → Prop} {n : Nat} {w w' : World} (h : Only B w w') (hB : ∀ k, B k → n ≤ k) (hn : n ≤ w.heap.size) : Below n w w' :=
  ⟨h.os, h.tape, h.output, h.size, fun k hk => h.block k (Nat.lt_of_lt_of_le hk hn) fun hb => by have := hB k hb; omega⟩
theorem Only.set {B : Nat → Prop} {w w' : World} (h : Only B w w') {b : Nat} (hb : B b) (i : Nat) (v : Value) : Only B w (w'.setCell ⟨b, i, none⟩ v) :=
  ⟨h.os, h.tape, h.output, by simpa [World.setCell] using h.size, fun k hk hn => (Go.Deep.blk_setCell_other _ _ _ _ (fun e => hn (by have e' : k = b := e; rw [e']; exact hb))).trans (h.block k hk hn)⟩
theorem Row.only {B : Nat → Prop} {w w' : World} {b : Nat} {t : TypeId} {l : List Value} (h : Row w b t l) (ho : Only B w w') (hb : ¬ B b) : Row w' b t l := (ho.block _ h.lt hb).trans h

/-- n marks from k on. -/
def marks (k : Int) (n : Nat) : List ByteArray := (List.range n).map fun (j : Nat) => markT (k + j)
theorem marks_length (k : Int) (n : Nat) : (marks k n).length = n := by simp [marks]
theorem marks_at {k : Int} {n j : Nat} (h : j < n) : (marks k n)[j]? = some (markT (k + j)) := by simp [marks, h]
theorem marks_succ (k : Int) (n : Nat) : marks k (n + 1) = marks k n ++ [markT (k + n)] := by simp [marks, List.range_succ]
theorem marks_set (k : Int) (n : Nat) (l : List Value) (h : n < l.length) : ((marks k n).map Value.string ++ l.drop n).set n (.string (markT (k + n))) = (marks k (n + 1)).map Value.string ++ l.drop (n + 1) := by
  rw [List.set_append_right _ _ (by simp [marks_length])]
  simp only [List.length_map, marks_length, Nat.sub_self, marks_succ, List.map_append, List.append_assoc]
  rw [List.drop_eq_getElem_cons h, List.set_cons_zero]
  rfl

set_option maxRecDepth 100000 in
set_option maxHeartbeats 2000000 in
theorem markStringS_any (b n cap : Nat) (l : List Value) (k : Int) (w : World) (hr : Row w b 9 l) (hn : n ≤ l.length) (h0 : 0 ≤ k) (h1 : k + n ≤ 1000000000) :
    Calls Tryz.prog 52 #[.slice (some ⟨b, 0, none⟩) n cap, .int .i64 k] w fun e w' => e = .returned (.int .i64 (k + n)) ∧ Row w' b 9 ((marks k n).map Value.string ++ l.drop n) ∧ Only (fun x => x = b) w w' := by
  go_enter Tryz.func52, Tryz.ntmps52
  go_wp2
  go_loopw [1, 5] (fun kk i wv => ∃ (j : Nat) (X : World), X = wv ∧ j ≤ n ∧ i = .int .i64 j ∧ kk = .int .i64 (k + j) ∧ Row X b 9 ((marks k j).map Value.string ++ l.drop j) ∧ Only (fun x => x = b) w X) (fun _ i _ => n - (intOf i).toNat)
  case atStart => exact ⟨0, _, rfl, Nat.zero_le _, rfl, by simp, by simpa [marks] using hr, Only.refl _ _⟩
  case round =>
    obtain ⟨j, X, rfl, hj, rfl, rfl, hrow, ho⟩ := hrel
    by_cases hlt : j < n
    · have hlt2 : (j : Int) < n := by omega
      have hj0 : (0 : Int) ≤ j := by omega
      go_wp2_with fail
      refine (markText_any (k + j) (by omega) _).mono ?_
      rintro e w1 ⟨rfl, hb⟩
      have hr1 := hrow.later hb
      have ho1 := ho.trans (Only.of (B := fun x => x = b) hb)
      obtain ⟨v0, hv0⟩ : ∃ v, ((marks k j).map Value.string ++ l.drop j)[j]? = some v := by
        rw [List.getElem?_append_right (by simp [marks_length])]
        simp [marks_length]
        exact ⟨l[j], by simp [List.getElem?_eq_getElem (show j < l.length by omega)]⟩
      have c0 := hr1.cell j hv0
      have f0 := hr1.frozen j
      have hset := hr1.set j (.string (markT (k + j)))
      rw [marks_set k j l (by omega)] at hset
      have hos := ho1.set (b := b) rfl j (.string (markT (k + j)))
      clear hrow hr1 hb
      go_wp2
      go_roundw
      case rel => exact ⟨j + 1, _, rfl, by omega, by go_num, by go_num, hset, hos⟩
      case measure => simp [intOf]; omega
    · have : j = n := by omega
      subst this
      go_wp2
      go_ret
      exact ⟨rfl, hrow, ho⟩

end Go.Proofs.YtfmhkicncgccjaaGreatDoor

/- Marks written into lists of foes and of uses. -/
namespace Go.Proofs.YtfmhkicncgccjaaGreatDoor
open Go.RowKit Go.Sort
set_option linter.unusedSimpArgs false
set_option linter.unusedVariables false

/-- The cells l, the first m of them as g tells. -/
def rowG (g : Nat → Value) (m : Nat) (l : List Value) : List Value := (List.range m).map g ++ l.drop m
theorem rowG_zero (g : Nat → Value) (l : List Value) : rowG g 0 l = l := by simp [rowG]
theorem rowG_set (g : Nat → Value) {m : Nat} {l : List Value} (h : m < l.length) : (rowG g m l).set m (g m) = rowG g (m + 1) l := by
  unfold rowG
  rw [List.set_append_right _ _ (by simp)]
  simp only [List.length_map, List.length_range, Nat.sub_self, List.range_succ, List.map_append, List.append_assoc]
  rw [List.drop_eq_getElem_cons h, List.set_cons_zero]
  rfl
theorem rowG_keep (g : Nat → Value) {m : Nat} {l : List Value} (h : l[m]? = some (g m)) : rowG g m l = rowG g (m + 1) l := by
  obtain ⟨hm, e⟩ := List.getElem?_eq_some_iff.1 h
  rw [← rowG_set g hm]
  have h2 : (rowG g m l)[m]? = some (g m) := by
    unfold rowG
    rw [List.getElem?_append_right (by simp)]
    simpa using h
  obtain ⟨h3, e3⟩ := List.getElem?_eq_some_iff.1 h2
  rw [← e3]
  exact (List.set_getElem_self h3).symm
theorem rowG_length (g : Nat → Value) {m : Nat} {l : List Value} (h : m ≤ l.length) : (rowG g m l).length = l.length := by
  unfold rowG; simp; omega
theorem rowG_at (g : Nat → Value) {m j : Nat} {l : List Value} (h : j < m) : (rowG g m l)[j]? = some (g j) := by
  unfold rowG
  rw [List.getElem?_append_left (by simpa using h)]
  simp [h]
theorem rowG_old (g : Nat → Value) {m j : Nat} {l : List Value} (h : m ≤ j) (hl : m ≤ l.length) : (rowG g m l)[j]? = l[j]? := by
  unfold rowG
  rw [List.getElem?_append_right (by simpa using h)]
  simp
  congr 1
  omega
/-- What the cell at m holds that is not yet marked. -/
theorem rowG_next (g : Nat → Value) {m j : Nat} {l : List Value} (h : m ≤ j) (hj : j < l.length) : ∃ v, (rowG g m l)[j]? = some v := by
  refine ⟨l[j], ?_⟩
  rw [rowG_old g h (by omega)]
  exact List.getElem?_eq_getElem hj

/-- The cells of marked foes, of marked uses. -/
def gFoe (k : Int) (q : Nat) : Value := .string (markT (k + q))
def gUse (k : Int) (q : Nat) : Value := if q % 3 = 0 then .string (markT (k + q)) else .int .i64 (k + q)

set_option maxRecDepth 100000 in
set_option maxHeartbeats 2000000 in
theorem markFoes_any (b n cap : Nat) (l : List Value) (k : Int) (w : World) (hr : Row w b 105 l) (hn : n * 2 ≤ l.length) (h0 : 0 ≤ k) (h1 : k + n * 2 ≤ 1000000000) :
    Calls Tryz.prog 50 #[.slice (some ⟨b, 0, none⟩) n cap, .int .i64 k] w fun e w' => e = .returned (.int .i64 (k + (n * 2 : Nat))) ∧ Row w' b 105 (rowG (gFoe k) (n * 2) l) ∧ Only (fun x => x = b) w w' := by
  go_enter Tryz.func50, Tryz.ntmps50
  go_wp2
  go_loopw [1, 5] (fun kk i wv => ∃ (j : Nat) (X : World), X = wv ∧ j ≤ n ∧ i = .int .i64 j ∧ kk = .int .i64 (k + (j * 2 : Nat)) ∧ Row X b 105 (rowG (gFoe k) (j * 2) l) ∧ Only (fun x => x = b) w X) (fun _ i _ => n - (intOf i).toNat)
  case atStart => exact ⟨0, _, rfl, Nat.zero_le _, rfl, by simp, by rw [Nat.zero_mul, rowG_zero]; exact hr, Only.refl _ _⟩
  case round =>
    obtain ⟨j, X, rfl, hj, rfl, rfl, hrow, ho⟩ := hrel
    by_cases hlt : j < n
    · have hlt2 : (j : Int) < n := by omega
      have hj0 : (0 : Int) ≤ j := by omega
      go_wp2_with fail
      refine (markText_any (k + (j * 2 : Nat)) (by omega) _).mono ?_
      rintro e w1 ⟨rfl, hb⟩
      have hr1 := hrow.later hb
      have ho1 := ho.trans (Only.of (B := fun x => x = b) hb)
      obtain ⟨v0, hv0⟩ := rowG_next (gFoe k) (m := j * 2) (j := j * 2) (l := l) (Nat.le_refl _) (by omega)
      have c0 := hr1.cell _ hv0
      have f0 := hr1.frozen (j * 2)
      have hset := hr1.set (j * 2) (gFoe k (j * 2))
      rw [rowG_set _ (by omega)] at hset
      have hos := ho1.set (b := b) rfl (j * 2) (gFoe k (j * 2))
      unfold gFoe at hset hos
      clear hrow hr1 hb
      push_cast at hset hos
      go_wp2_with fail
      generalize w1.setCell ⟨b, j * 2, none⟩ (.string (markT (k + (j : Int) * 2))) = w2 at hset hos ⊢
      clear c0 f0 hv0
      refine (markText_any (k + (j : Int) * 2 + 1) (by omega) _).mono ?_
      rintro e w3 ⟨rfl, hb⟩
      have hr1 := hset.later hb
      have ho1 := hos.trans (Only.of (B := fun x => x = b) hb)
      obtain ⟨v0, hv0⟩ := rowG_next (gFoe k) (m := j * 2 + 1) (j := j * 2 + 1) (l := l) (Nat.le_refl _) (by omega)
      have c0 := hr1.cell _ hv0
      have f0 := hr1.frozen (j * 2 + 1)
      have hset2 := hr1.set (j * 2 + 1) (gFoe k (j * 2 + 1))
      have ex : rowG (fun q => Value.string (markT (k + (q : Int)))) (j * 2 + 1) l = rowG (gFoe k) (j * 2 + 1) l := rfl
      rw [ex, rowG_set _ (by omega)] at hset2
      have hos2 := ho1.set (b := b) rfl (j * 2 + 1) (gFoe k (j * 2 + 1))
      have eg : gFoe k (j * 2 + 1) = .string (markT (k + (j : Int) * 2 + 1)) := by unfold gFoe; congr 2; push_cast; omega
      rw [eg] at hset2 hos2
      clear hset hos hr1 hb ho1 ex eg
      go_wp2
      go_roundw
      case rel => exact ⟨j + 1, _, rfl, by omega, by go_num, by push_cast; go_num, by rw [show (j + 1) * 2 = j * 2 + 1 + 1 by omega]; exact hset2, hos2⟩
      case measure => simp [intOf]; omega
    · have : j = n := by omega
      subst this
      go_wp2
      go_ret
      exact ⟨rfl, hrow, ho⟩

set_option maxRecDepth 100000 in
set_option maxHeartbeats 2000000 in
theorem markUses_any (b n cap : Nat) (l : List Value) (k : Int) (w : World) (hr : Row w b 101 l) (hn : n * 3 ≤ l.length) (h0 : 0 ≤ k) (h1 : k + n * 3 ≤ 1000000000) :
    Calls Tryz.prog 54 #[.slice (some ⟨b, 0, none⟩) n cap, .int .i64 k] w fun e w' => e = .returned (.int .i64 (k + (n * 3 : Nat))) ∧ Row w' b 101 (rowG (gUse k) (n * 3) l) ∧ Only (fun x => x = b) w w' := by
  go_enter Tryz.func54, Tryz.ntmps54
  go_wp2
  go_loopw [1, 5] (fun kk i wv => ∃ (j : Nat) (X : World), X = wv ∧ j ≤ n ∧ i = .int .i64 j ∧ kk = .int .i64 (k + (j * 3 : Nat)) ∧ Row X b 101 (rowG (gUse k) (j * 3) l) ∧ Only (fun x => x = b) w X) (fun _ i _ => n - (intOf i).toNat)
  case atStart => exact ⟨0, _, rfl, Nat.zero_le _, rfl, by simp, by rw [Nat.zero_mul, rowG_zero]; exact hr, Only.refl _ _⟩
  case round =>
    obtain ⟨j, X, rfl, hj, rfl, rfl, hrow, ho⟩ := hrel
    by_cases hlt : j < n
    · have hlt2 : (j : Int) < n := by omega
      have hj0 : (0 : Int) ≤ j := by omega
      go_wp2_with fail
      refine (markText_any (k + (j * 3 : Nat)) (by omega) _).mono ?_
      rintro e w1 ⟨rfl, hb⟩
      have hr1 := hrow.later hb
      have ho1 := ho.trans (Only.of (B := fun x => x = b) hb)
      obtain ⟨v0, hv0⟩ := rowG_next (gUse k) (m := j * 3) (j := j * 3) (l := l) (Nat.le_refl _) (by omega)
      obtain ⟨v1, hv1⟩ := rowG_next (gUse k) (m := j * 3) (j := j * 3 + 1) (l := l) (by omega) (by omega)
      obtain ⟨v2, hv2⟩ := rowG_next (gUse k) (m := j * 3) (j := j * 3 + 2) (l := l) (by omega) (by omega)
      have c0 := hr1.cell _ hv0
      have c1 := hr1.cell _ hv1
      have c2 := hr1.cell _ hv2
      have f0 := hr1.frozen (j * 3)
      have f1 := hr1.frozen (j * 3 + 1)
      have f2 := hr1.frozen (j * 3 + 2)
      have e0 : gUse k (j * 3) = .string (markT (k + (j : Int) * 3)) := by unfold gUse; rw [if_pos (by omega)]; push_cast; rfl
      have e1 : gUse k (j * 3 + 1) = .int .i64 (k + (j : Int) * 3 + 1) := by unfold gUse; rw [if_neg (by omega)]; congr 1; push_cast; omega
      have e2 : gUse k (j * 3 + 1 + 1) = .int .i64 (k + (j : Int) * 3 + 1 + 1) := by unfold gUse; rw [if_neg (by omega)]; congr 1; push_cast; omega
      have hset := ((hr1.set (j * 3) (gUse k (j * 3))).set (j * 3 + 1) (gUse k (j * 3 + 1))).set (j * 3 + 1 + 1) (gUse k (j * 3 + 1 + 1))
      rw [rowG_set _ (by omega), rowG_set _ (by omega), rowG_set _ (by omega), e0, e1, e2] at hset
      have hos := ((ho1.set (b := b) rfl (j * 3) (gUse k (j * 3))).set (b := b) rfl (j * 3 + 1) (gUse k (j * 3 + 1))).set (b := b) rfl (j * 3 + 1 + 1) (gUse k (j * 3 + 1 + 1))
      rw [e0, e1, e2] at hos
      clear hrow hr1 hb e0 e1 e2 hv0 hv1 hv2
      go_wp2
      go_roundw
      case rel => exact ⟨j + 1, _, rfl, by omega, by go_num, by push_cast; go_num, by rw [show (j + 1) * 3 = j * 3 + 1 + 1 + 1 by omega]; exact hset, hos⟩
      case measure => simp [intOf]; omega
    · have : j = n := by omega
      subst this
      go_wp2
      go_ret
      exact ⟨rfl, hrow, ho⟩

end Go.Proofs.YtfmhkicncgccjaaGreatDoor

/- Marks in a list of texts or of uses that may be empty. -/
namespace Go.Proofs.YtfmhkicncgccjaaGreatDoor
open Go.RowKit Go.Sort
set_option linter.unusedSimpArgs false
set_option linter.unusedVariables false

/-- A list of n elements of s cells that lies in a block of its own, or is empty. -/
def Slot (w : World) (t : TypeId) (s : Nat) (a : Option Addr) (n : Nat) : Prop := n = 0 ∨ ∃ b l, a = some ⟨b, 0, none⟩ ∧ Row w b t l ∧ n * s ≤ l.length
/-- Such a list, its cells as g tells. -/
def SlotG (w : World) (t : TypeId) (s : Nat) (a : Option Addr) (n : Nat) (g : Nat → Value) : Prop := n = 0 ∨ ∃ b l, a = some ⟨b, 0, none⟩ ∧ Row w b t (rowG g (n * s) l) ∧ n * s ≤ l.length
/-- The block of such a list. -/
def InSlot (a : Option Addr) (n : Nat) (x : Nat) : Prop := n ≠ 0 ∧ ∃ o, a = some ⟨x, o, none⟩
theorem Slot.only {B : Nat → Prop} {w w' : World} {t : TypeId} {s n : Nat} {a : Option Addr} (h : Slot w t s a n) (ho : Only B w w') (hB : ∀ x, InSlot a n x → ¬ B x) : Slot w' t s a n := by
  rcases h with h | ⟨b, l, rfl, hr, hl⟩
  · exact Or.inl h
  · by_cases hn : n = 0
    · exact Or.inl hn
    · exact Or.inr ⟨b, l, rfl, hr.only ho (hB b ⟨hn, 0, rfl⟩), hl⟩
theorem SlotG.only {B : Nat → Prop} {w w' : World} {t : TypeId} {s n : Nat} {a : Option Addr} {g : Nat → Value} (h : SlotG w t s a n g) (ho : Only B w w') (hB : ∀ x, InSlot a n x → ¬ B x) : SlotG w' t s a n g := by
  rcases h with h | ⟨b, l, rfl, hr, hl⟩
  · exact Or.inl h
  · by_cases hn : n = 0
    · exact Or.inl hn
    · exact Or.inr ⟨b, l, rfl, hr.only ho (hB b ⟨hn, 0, rfl⟩), hl⟩
theorem SlotG.later {w w' : World} {t : TypeId} {s n : Nat} {a : Option Addr} {g : Nat → Value} (h : SlotG w t s a n g) (hb : Below w.heap.size w w') : SlotG w' t s a n g := h.only (Only.of (B := fun _ => False) hb) (fun _ _ => id)
theorem marks_row (k : Int) (n : Nat) (l : List Value) : (marks k n).map Value.string ++ l.drop n = rowG (gFoe k) n l := by
  unfold rowG marks gFoe
  rw [List.map_map]
  rfl

set_option maxHeartbeats 1000000 in
theorem markString0 (a : Option Addr) (cap : Nat) (k : Int) (w : World) :
    Calls Tryz.prog 52 #[.slice a 0 cap, .int .i64 k] w fun e w' => e = .returned (.int .i64 k) ∧ w' = w := by
  go_enter Tryz.func52, Tryz.ntmps52
  go_wp2
  go_loopw [1, 5] (fun kk i wv => wv = w ∧ i = .int .i64 0 ∧ kk = .int .i64 k) (fun _ _ _ => 0)
  case atStart => exact ⟨rfl, rfl, rfl⟩
  case round =>
    obtain ⟨rfl, rfl, rfl⟩ := hrel
    go_wp2
    go_ret
    exact ⟨rfl, rfl⟩
set_option maxHeartbeats 1000000 in
theorem markUses0 (a : Option Addr) (cap : Nat) (k : Int) (w : World) :
    Calls Tryz.prog 54 #[.slice a 0 cap, .int .i64 k] w fun e w' => e = .returned (.int .i64 k) ∧ w' = w := by
  go_enter Tryz.func54, Tryz.ntmps54
  go_wp2
  go_loopw [1, 5] (fun kk i wv => wv = w ∧ i = .int .i64 0 ∧ kk = .int .i64 k) (fun _ _ _ => 0)
  case atStart => exact ⟨rfl, rfl, rfl⟩
  case round =>
    obtain ⟨rfl, rfl, rfl⟩ := hrel
    go_wp2
    go_ret
    exact ⟨rfl, rfl⟩
theorem only_slot {w w' : World} {b n : Nat} (h : Only (fun x => x = b) w w') (hn : n ≠ 0) : Only (InSlot (some ⟨b, 0, none⟩) n) w w' :=
  h.mono fun x hx => ⟨hn, 0, by rw [hx]⟩
theorem markStrings_any (a : Option Addr) (n cap : Nat) (k : Int) (w : World) (h : Slot w 9 1 a n) (h0 : 0 ≤ k) (h1 : k + n ≤ 1000000000) :
    Calls Tryz.prog 52 #[.slice a n cap, .int .i64 k] w fun e w' => e = .returned (.int .i64 (k + n)) ∧ SlotG w' 9 1 a n (gFoe k) ∧ Only (InSlot a n) w w' := by
  by_cases hn : n = 0
  · subst hn
    refine (markString0 a cap k w).mono ?_
    rintro e w' ⟨rfl, rfl⟩
    exact ⟨by simp, Or.inl rfl, Only.refl _ _⟩
  · rcases h with h | ⟨b, l, rfl, hr, hl⟩
    · exact absurd h hn
    · refine (markStringS_any b n cap l k w hr (by omega) h0 h1).mono ?_
      rintro e w' ⟨rfl, h2, h3⟩
      rw [marks_row] at h2
      exact ⟨rfl, Or.inr ⟨b, l, rfl, by rw [Nat.mul_one]; exact h2, hl⟩, only_slot h3 hn⟩
theorem markUseS_any (a : Option Addr) (n cap : Nat) (k : Int) (w : World) (h : Slot w 101 3 a n) (h0 : 0 ≤ k) (h1 : k + n * 3 ≤ 1000000000) :
    Calls Tryz.prog 54 #[.slice a n cap, .int .i64 k] w fun e w' => e = .returned (.int .i64 (k + (n * 3 : Nat))) ∧ SlotG w' 101 3 a n (gUse k) ∧ Only (InSlot a n) w w' := by
  by_cases hn : n = 0
  · subst hn
    refine (markUses0 a cap k w).mono ?_
    rintro e w' ⟨rfl, rfl⟩
    exact ⟨by simp, Or.inl rfl, Only.refl _ _⟩
  · rcases h with h | ⟨b, l, rfl, hr, hl⟩
    · exact absurd h hn
    · refine (markUses_any b n cap l k w hr hl h0 h1).mono ?_
      rintro e w' ⟨rfl, h2, h3⟩
      exact ⟨rfl, Or.inr ⟨b, l, rfl, h2, hl⟩, only_slot h3 hn⟩

end Go.Proofs.YtfmhkicncgccjaaGreatDoor

/- Marks written into a list of spots. -/
namespace Go.Proofs.YtfmhkicncgccjaaGreatDoor
open Go.RowKit Go.Sort
set_option linter.unusedSimpArgs false
set_option linter.unusedVariables false

/-- The number with which the marks of spot i begin. -/
def kSp (L : Nat → Nat) (k : Int) : Nat → Int
  | 0 => k
  | i + 1 => kSp L k i + 4 + L i
theorem kSp_step (L : Nat → Nat) (k : Int) (i : Nat) : kSp L k (i + 1) = kSp L k i + 4 + L i := rfl
theorem kSp_le (L : Nat → Nat) (k : Int) {i j : Nat} (h : i ≤ j) : kSp L k i ≤ kSp L k j := by
  induction h with
  | refl => exact Int.le_refl _
  | step _ ih => rw [kSp_step]; omega
theorem kSp_ge (L : Nat → Nat) (k : Int) (i : Nat) : k + 4 * i ≤ kSp L k i := by
  induction i with
  | zero => simp [kSp]
  | succ i ih => rw [kSp_step]; push_cast; omega
/-- The cells of marked spots. -/
def gSpot (A : Nat → Option Addr) (L C : Nat → Nat) (k : Int) (q : Nat) : Value :=
  if q % 5 = 0 then .string (markT (kSp L k (q / 5))) else if q % 5 = 4 then .slice (A (q / 5)) (L (q / 5)) (C (q / 5)) else .int .i64 (kSp L k (q / 5) + (q % 5 : Nat))
theorem gSpot_0 (A : Nat → Option Addr) (L C : Nat → Nat) (k : Int) (j : Nat) : gSpot A L C k (j * 5) = .string (markT (kSp L k j)) := by
  unfold gSpot; rw [if_pos (by omega), show j * 5 / 5 = j by omega]
theorem gSpot_c (A : Nat → Option Addr) (L C : Nat → Nat) (k : Int) (j c : Nat) (h0 : 0 < c) (h1 : c < 4) : gSpot A L C k (j * 5 + c) = .int .i64 (kSp L k j + (c : Nat)) := by
  unfold gSpot; rw [if_neg (by omega), if_neg (by omega), show (j * 5 + c) / 5 = j by omega, show (j * 5 + c) % 5 = c by omega]
theorem gSpot_4 (A : Nat → Option Addr) (L C : Nat → Nat) (k : Int) (j : Nat) : gSpot A L C k (j * 5 + 4) = .slice (A j) (L j) (C j) := by
  unfold gSpot; rw [if_neg (by omega), if_pos (by omega), show (j * 5 + 4) / 5 = j by omega]

/-- n spots in block b, each list of theirs in a block of its own. -/
structure SpotsOwn (w : World) (b : Nat) (l : List Value) (n : Nat) (A : Nat → Option Addr) (L C : Nat → Nat) : Prop where
  row : Row w b 99 l
  len : n * 5 ≤ l.length
  may : ∀ i, i < n → l[i * 5 + 4]? = some (.slice (A i) (L i) (C i))
  slot : ∀ i, i < n → Slot w 9 1 (A i) (L i)
  apart : ∀ i, i < n → ¬ InSlot (A i) (L i) b
  each : ∀ i j, i < n → j < n → i ≠ j → ∀ x, InSlot (A i) (L i) x → ¬ InSlot (A j) (L j) x
/-- The blocks of such a list. -/
def InSpots (b n : Nat) (A : Nat → Option Addr) (L : Nat → Nat) (x : Nat) : Prop := x = b ∨ ∃ i, i < n ∧ InSlot (A i) (L i) x

set_option maxRecDepth 100000 in
set_option maxHeartbeats 4000000 in
theorem markSpots_any (b n cap : Nat) (l : List Value) (A : Nat → Option Addr) (L C : Nat → Nat) (k : Int) (w : World) (h : SpotsOwn w b l n A L C) (h0 : 0 ≤ k) (h1 : kSp L k n ≤ 1000000000) :
    Calls Tryz.prog 51 #[.slice (some ⟨b, 0, none⟩) n cap, .int .i64 k] w fun e w' => e = .returned (.int .i64 (kSp L k n)) ∧ Row w' b 99 (rowG (gSpot A L C k) (n * 5) l) ∧
      (∀ i, i < n → SlotG w' 9 1 (A i) (L i) (gFoe (kSp L k i + 4))) ∧ Only (InSpots b n A L) w w' := by
  have hlen := h.len
  have hn9 := kSp_ge L k n
  go_enter Tryz.func51, Tryz.ntmps51
  go_wp2
  go_loopw [1, 5] (fun kk i wv => ∃ (j : Nat) (X : World), X = wv ∧ j ≤ n ∧ i = .int .i64 j ∧ kk = .int .i64 (kSp L k j) ∧ Row X b 99 (rowG (gSpot A L C k) (j * 5) l) ∧ (∀ i, i < j → SlotG X 9 1 (A i) (L i) (gFoe (kSp L k i + 4))) ∧
      (∀ i, j ≤ i → i < n → Slot X 9 1 (A i) (L i)) ∧ Only (InSpots b n A L) w X) (fun _ i _ => n - (intOf i).toNat)
  case atStart => exact ⟨0, _, rfl, Nat.zero_le _, rfl, rfl, by rw [Nat.zero_mul, rowG_zero]; exact h.row, fun i hi => absurd hi (Nat.not_lt_zero _), fun i _ hi => h.slot i hi, Only.refl _ _⟩
  case round =>
    obtain ⟨j, X, rfl, hj, rfl, rfl, hrow, hdone, hleft, ho⟩ := hrel
    by_cases hlt : j < n
    · have hlt2 : (j : Int) < n := by omega
      have hj0 : (0 : Int) ≤ j := by omega
      have hkj : k ≤ kSp L k j := kSp_le L k (Nat.zero_le j)
      have hkn := kSp_le L k (show j + 1 ≤ n from hlt)
      rw [kSp_step] at hkn
      have hks := kSp_step L k j
      generalize hK : kSp L k j = K at hkj hkn hks
      go_wp2_with fail
      refine (markText_any K (by omega) _).mono ?_
      rintro e w1 ⟨rfl, hb⟩
      have hr1 := hrow.later hb
      have ho1 := ho.trans (Only.of (B := InSpots b n A L) hb)
      obtain ⟨v0, hv0⟩ := rowG_next (gSpot A L C k) (m := j * 5) (j := j * 5) (l := l) (Nat.le_refl _) (by omega)
      obtain ⟨v1, hv1⟩ := rowG_next (gSpot A L C k) (m := j * 5) (j := j * 5 + 1) (l := l) (by omega) (by omega)
      obtain ⟨v2, hv2⟩ := rowG_next (gSpot A L C k) (m := j * 5) (j := j * 5 + 2) (l := l) (by omega) (by omega)
      obtain ⟨v3, hv3⟩ := rowG_next (gSpot A L C k) (m := j * 5) (j := j * 5 + 3) (l := l) (by omega) (by omega)
      have hv4 : (rowG (gSpot A L C k) (j * 5) l)[j * 5 + 4]? = some (.slice (A j) (L j) (C j)) := by rw [rowG_old _ (by omega) (by omega)]; exact h.may j hlt
      have c0 := hr1.cell _ hv0
      have c1 := hr1.cell _ hv1
      have c2 := hr1.cell _ hv2
      have c3 := hr1.cell _ hv3
      have c4 := hr1.cell _ hv4
      have f0 := hr1.frozen (j * 5)
      have f1 := hr1.frozen (j * 5 + 1)
      have f2 := hr1.frozen (j * 5 + 2)
      have f3 := hr1.frozen (j * 5 + 3)
      have e0 : gSpot A L C k (j * 5) = .string (markT K) := by rw [gSpot_0, hK]
      have e1 : gSpot A L C k (j * 5 + 1) = .int .i64 (K + 1) := by rw [gSpot_c _ _ _ _ _ _ (by omega) (by omega), hK]; rfl
      have e2 : gSpot A L C k (j * 5 + 1 + 1) = .int .i64 (K + 1 + 1) := by rw [show j * 5 + 1 + 1 = j * 5 + 2 by omega, gSpot_c _ _ _ _ _ _ (by omega) (by omega), hK]; congr 1; push_cast; omega
      have e3 : gSpot A L C k (j * 5 + 1 + 1 + 1) = .int .i64 (K + 1 + 1 + 1) := by rw [show j * 5 + 1 + 1 + 1 = j * 5 + 3 by omega, gSpot_c _ _ _ _ _ _ (by omega) (by omega), hK]; congr 1; push_cast; omega
      have hset := (((hr1.set (j * 5) (gSpot A L C k (j * 5))).set (j * 5 + 1) (gSpot A L C k (j * 5 + 1))).set (j * 5 + 1 + 1) (gSpot A L C k (j * 5 + 1 + 1))).set (j * 5 + 1 + 1 + 1) (gSpot A L C k (j * 5 + 1 + 1 + 1))
      rw [rowG_set _ (by omega), rowG_set _ (by omega), rowG_set _ (by omega), rowG_set _ (by omega), e0, e1, e2, e3] at hset
      have hBb : InSpots b n A L b := Or.inl rfl
      have hos := (((ho1.set hBb (j * 5) (gSpot A L C k (j * 5))).set hBb (j * 5 + 1) (gSpot A L C k (j * 5 + 1))).set hBb (j * 5 + 1 + 1) (gSpot A L C k (j * 5 + 1 + 1))).set hBb (j * 5 + 1 + 1 + 1) (gSpot A L C k (j * 5 + 1 + 1 + 1))
      rw [e0, e1, e2, e3] at hos
      have ob : Only (fun x => x = b) X ((((w1.setCell ⟨b, j * 5, none⟩ (.string (markT K))).setCell ⟨b, j * 5 + 1, none⟩ (.int .i64 (K + 1))).setCell ⟨b, j * 5 + 1 + 1, none⟩ (.int .i64 (K + 1 + 1))).setCell ⟨b, j * 5 + 1 + 1 + 1, none⟩ (.int .i64 (K + 1 + 1 + 1))) :=
        ((((Only.of (B := fun x => x = b) hb).set (b := b) rfl _ _).set (b := b) rfl _ _).set (b := b) rfl _ _).set (b := b) rfl _ _
      clear hr1 hb e0 e1 e2 e3 hv0 hv1 hv2 hv3 hv4 ho1 hrow
      go_wp2_with fail
      generalize (((w1.setCell ⟨b, j * 5, none⟩ (.string (markT K))).setCell ⟨b, j * 5 + 1, none⟩ (.int .i64 (K + 1))).setCell ⟨b, j * 5 + 1 + 1, none⟩ (.int .i64 (K + 1 + 1))).setCell ⟨b, j * 5 + 1 + 1 + 1, none⟩ (.int .i64 (K + 1 + 1 + 1)) = w2 at hset hos ob ⊢
      clear c0 c1 c2 c3 c4 f0 f1 f2 f3
      refine (markStrings_any (A j) (L j) (C j) (K + 1 + 1 + 1 + 1) w2 ((hleft j (Nat.le_refl _) hlt).only ob (fun x hx e => h.apart j hlt (by subst e; exact hx))) (by omega) (by omega)).mono ?_
      rintro e w3 ⟨rfl, hG, hO⟩
      have eK : K + 1 + 1 + 1 + 1 = kSp L k j + 4 := by rw [hK]; omega
      have hrow3 := hset.only hO (h.apart j hlt)
      rw [rowG_keep _ (show l[j * 5 + 1 + 1 + 1 + 1]? = some (gSpot A L C k (j * 5 + 1 + 1 + 1 + 1)) by rw [show j * 5 + 1 + 1 + 1 + 1 = j * 5 + 4 by omega, gSpot_4]; exact h.may j hlt), show j * 5 + 1 + 1 + 1 + 1 + 1 = (j + 1) * 5 by omega] at hrow3
      have hdone3 : ∀ i, i < j + 1 → SlotG w3 9 1 (A i) (L i) (gFoe (kSp L k i + 4)) := fun i hi => by
        by_cases e : i = j
        · subst e
          rw [← eK]
          exact hG
        · exact ((hdone i (by omega)).only ob (fun x hx e => h.apart i (by omega) (by subst e; exact hx))).only hO (fun x hx hx' => h.each i j (by omega) hlt e x hx hx')
      have hleft3 : ∀ i, j + 1 ≤ i → i < n → Slot w3 9 1 (A i) (L i) := fun i hi hin =>
        ((hleft i (by omega) hin).only ob (fun x hx e => h.apart i hin (by subst e; exact hx))).only hO (fun x hx hx' => h.each i j hin hlt (by omega) x hx hx')
      have ho3 := hos.trans (hO.mono (B' := InSpots b n A L) fun x hx => Or.inr ⟨j, hlt, hx⟩)
      clear hG hO hset hos ob hdone hleft ho
      go_wp2
      go_roundw
      case rel => exact ⟨j + 1, _, rfl, by omega, by go_num, by rw [hks], hrow3, hdone3, hleft3, ho3⟩
      case measure => simp [intOf]; omega
    · have : j = n := by omega
      subst this
      go_wp2
      go_ret
      exact ⟨rfl, hrow, hdone, ho⟩

end Go.Proofs.YtfmhkicncgccjaaGreatDoor

/- Marks written into a list of parts. -/
namespace Go.Proofs.YtfmhkicncgccjaaGreatDoor
open Go.RowKit Go.Sort
set_option linter.unusedSimpArgs false
set_option linter.unusedVariables false

/-- The four lists of a part: their elements' type, cells and marks; the number with which each begins. -/
def tS : Nat → TypeId
  | 1 => 101
  | _ => 9
def sS : Nat → Nat
  | 1 => 3
  | _ => 1
def gS : Nat → Int → Nat → Value
  | 1, k => gUse k
  | _, k => gFoe k
def pS (L : Nat → Nat) (K : Int) : Nat → Int
  | 0 => K + 2
  | 1 => K + 2 + L 0
  | 2 => K + 2 + L 0 + (L 1 * 3 : Nat)
  | 3 => K + 2 + L 0 + (L 1 * 3 : Nat) + L 2
  | _ => K + 2 + L 0 + (L 1 * 3 : Nat) + L 2 + L 3
/-- The number with which the marks of part i begin. -/
def kPt (L : Nat → Nat → Nat) (k : Int) : Nat → Int
  | 0 => k
  | i + 1 => pS (L i) (kPt L k i) 4 + 1
theorem kPt_step (L : Nat → Nat → Nat) (k : Int) (i : Nat) : kPt L k (i + 1) = kPt L k i + 2 + L i 0 + (L i 1 * 3 : Nat) + L i 2 + L i 3 + 1 := rfl
theorem kPt_le (L : Nat → Nat → Nat) (k : Int) {i j : Nat} (h : i ≤ j) : kPt L k i ≤ kPt L k j := by
  induction h with
  | refl => exact Int.le_refl _
  | step _ ih => rw [kPt_step]; omega
theorem kPt_ge (L : Nat → Nat → Nat) (k : Int) (i : Nat) : k + 3 * i ≤ kPt L k i := by
  induction i with
  | zero => simp [kPt]
  | succ i ih => rw [kPt_step]; push_cast; omega
/-- The cells of marked parts. -/
def gPart (A : Nat → Nat → Option Addr) (L C : Nat → Nat → Nat) (k : Int) (q : Nat) : Value :=
  if q % 7 = 0 then .int .i64 (kPt L k (q / 7)) else if q % 7 = 1 then .int .i64 (kPt L k (q / 7) + 1) else if q % 7 = 6 then .bool (pS (L (q / 7)) (kPt L k (q / 7)) 4 % 3 == 0) else .slice (A (q / 7) (q % 7 - 2)) (L (q / 7) (q % 7 - 2)) (C (q / 7) (q % 7 - 2))
theorem gPart_0 (A : Nat → Nat → Option Addr) (L C : Nat → Nat → Nat) (k : Int) (j : Nat) : gPart A L C k (j * 7) = .int .i64 (kPt L k j) := by
  unfold gPart; rw [if_pos (by omega), show j * 7 / 7 = j by omega]
theorem gPart_1 (A : Nat → Nat → Option Addr) (L C : Nat → Nat → Nat) (k : Int) (j : Nat) : gPart A L C k (j * 7 + 1) = .int .i64 (kPt L k j + 1) := by
  unfold gPart; rw [if_neg (by omega), if_pos (by omega), show (j * 7 + 1) / 7 = j by omega]
theorem gPart_6 (A : Nat → Nat → Option Addr) (L C : Nat → Nat → Nat) (k : Int) (j : Nat) : gPart A L C k (j * 7 + 6) = .bool (pS (L j) (kPt L k j) 4 % 3 == 0) := by
  unfold gPart; rw [if_neg (by omega), if_neg (by omega), if_pos (by omega), show (j * 7 + 6) / 7 = j by omega]
theorem gPart_c (A : Nat → Nat → Option Addr) (L C : Nat → Nat → Nat) (k : Int) (j c : Nat) (h : c < 4) : gPart A L C k (j * 7 + 2 + c) = .slice (A j c) (L j c) (C j c) := by
  unfold gPart; rw [if_neg (by omega), if_neg (by omega), if_neg (by omega), show (j * 7 + 2 + c) / 7 = j by omega, show (j * 7 + 2 + c) % 7 - 2 = c by omega]

/-- n parts in block b, each list of theirs in a block of its own. -/
structure PartsOwn (w : World) (b : Nat) (l : List Value) (n : Nat) (A : Nat → Nat → Option Addr) (L C : Nat → Nat → Nat) : Prop where
  row : Row w b 60 l
  len : n * 7 ≤ l.length
  lists : ∀ i, i < n → ∀ c, c < 4 → l[i * 7 + 2 + c]? = some (.slice (A i c) (L i c) (C i c))
  slot : ∀ i, i < n → ∀ c, c < 4 → Slot w (tS c) (sS c) (A i c) (L i c)
  apart : ∀ i, i < n → ∀ c, c < 4 → ¬ InSlot (A i c) (L i c) b
  each : ∀ i c j d, i < n → c < 4 → j < n → d < 4 → (i ≠ j ∨ c ≠ d) → ∀ x, InSlot (A i c) (L i c) x → ¬ InSlot (A j d) (L j d) x
/-- The blocks of such a list. -/
def InParts (b n : Nat) (A : Nat → Nat → Option Addr) (L : Nat → Nat → Nat) (x : Nat) : Prop := x = b ∨ ∃ i, i < n ∧ ∃ c, c < 4 ∧ InSlot (A i c) (L i c) x

/-- In the midst of marking: m cells of the row, and the lists ahead of list c of part j. -/
structure Mid (w : World) (b : Nat) (l : List Value) (n : Nat) (A : Nat → Nat → Option Addr) (L C : Nat → Nat → Nat) (k : Int) (j c m : Nat) (W : World) : Prop where
  row : Row W b 60 (rowG (gPart A L C k) m l)
  done : ∀ i, i < n → ∀ d, d < 4 → (i < j ∨ (i = j ∧ d < c)) → SlotG W (tS d) (sS d) (A i d) (L i d) (gS d (pS (L i) (kPt L k i) d))
  left : ∀ i, i < n → ∀ d, d < 4 → ¬ (i < j ∨ (i = j ∧ d < c)) → Slot W (tS d) (sS d) (A i d) (L i d)
  only : Only (InParts b n A L) w W
theorem Mid.sets {w : World} {b : Nat} {l : List Value} {n : Nat} {A : Nat → Nat → Option Addr} {L C : Nat → Nat → Nat} {k : Int} {j c m m' : Nat} {W W' : World} (hp : PartsOwn w b l n A L C) (h : Mid w b l n A L C k j c m W) (ho : Only (fun x => x = b) W W') (hr : Row W' b 60 (rowG (gPart A L C k) m' l)) : Mid w b l n A L C k j c m' W' :=
  ⟨hr, fun i hi d hd hc => (h.done i hi d hd hc).only ho (fun x hx e => hp.apart i hi d hd (by subst e; exact hx)), fun i hi d hd hc => (h.left i hi d hd hc).only ho (fun x hx e => hp.apart i hi d hd (by subst e; exact hx)), h.only.trans (ho.mono fun x hx => Or.inl hx)⟩
theorem Mid.step {w : World} {b : Nat} {l : List Value} {n : Nat} {A : Nat → Nat → Option Addr} {L C : Nat → Nat → Nat} {k : Int} {j c m : Nat} {W W' : World} (hp : PartsOwn w b l n A L C) (h : Mid w b l n A L C k j c m W) (hj : j < n) (hc4 : c < 4) (hg : SlotG W' (tS c) (sS c) (A j c) (L j c) (gS c (pS (L j) (kPt L k j) c))) (ho : Only (InSlot (A j c) (L j c)) W W') : Mid w b l n A L C k j (c + 1) m W' := by
  refine ⟨h.row.only ho (hp.apart j hj c hc4), fun i hi d hd hc => ?_, fun i hi d hd hc => ?_, h.only.trans (ho.mono fun x hx => Or.inr ⟨j, hj, c, hc4, hx⟩)⟩
  · by_cases e : i = j ∧ d = c
    · obtain ⟨rfl, rfl⟩ := e
      exact hg
    · exact (h.done i hi d hd (by omega)).only ho (fun x hx hx' => hp.each i d j c hi hd hj hc4 (by omega) x hx hx')
  · exact (h.left i hi d hd (by omega)).only ho (fun x hx hx' => hp.each i d j c hi hd hj hc4 (by omega) x hx hx')
theorem Mid.next {w : World} {b : Nat} {l : List Value} {n : Nat} {A : Nat → Nat → Option Addr} {L C : Nat → Nat → Nat} {k : Int} {j m : Nat} {W : World} (h : Mid w b l n A L C k j 4 m W) : Mid w b l n A L C k (j + 1) 0 m W :=
  ⟨h.row, fun i hi d hd hc => h.done i hi d hd (by omega), fun i hi d hd hc => h.left i hi d hd (by omega), h.only⟩
theorem Mid.first {w : World} {b : Nat} {l : List Value} {n : Nat} {A : Nat → Nat → Option Addr} {L C : Nat → Nat → Nat} (k : Int) (h : PartsOwn w b l n A L C) : Mid w b l n A L C k 0 0 0 w :=
  ⟨by rw [rowG_zero]; exact h.row, fun i hi d hd hc => by omega, fun i hi d hd _ => h.slot i hi d hd, Only.refl _ _⟩

end Go.Proofs.YtfmhkicncgccjaaGreatDoor

/- Marks written into a list of parts: the walk. -/
namespace Go.Proofs.YtfmhkicncgccjaaGreatDoor
open Go.RowKit Go.Sort
set_option linter.unusedSimpArgs false
set_option linter.unusedVariables false

set_option maxRecDepth 100000 in
set_option maxHeartbeats 4000000 in
theorem markParts_any (b n cap : Nat) (l : List Value) (A : Nat → Nat → Option Addr) (L C : Nat → Nat → Nat) (k : Int) (w : World) (h : PartsOwn w b l n A L C) (h0 : 0 ≤ k) (h1 : kPt L k n ≤ 1000000000) :
    Calls Tryz.prog 53 #[.slice (some ⟨b, 0, none⟩) n cap, .int .i64 k] w fun e w' => e = .returned (.int .i64 (kPt L k n)) ∧ Mid w b l n A L C k n 0 (n * 7) w' := by
  have hlen := h.len
  have hn9 := kPt_ge L k n
  go_enter Tryz.func53, Tryz.ntmps53
  go_wp2
  go_loopw [1, 5] (fun kk i wv => ∃ (j : Nat) (X : World), X = wv ∧ j ≤ n ∧ i = .int .i64 j ∧ kk = .int .i64 (kPt L k j) ∧ Mid w b l n A L C k j 0 (j * 7) X) (fun _ i _ => n - (intOf i).toNat)
  case atStart => exact ⟨0, _, rfl, Nat.zero_le _, rfl, rfl, by rw [Nat.zero_mul]; exact Mid.first k h⟩
  case round =>
    obtain ⟨j, X, rfl, hj, rfl, rfl, hm⟩ := hrel
    by_cases hlt : j < n
    · have hlt2 : (j : Int) < n := by omega
      have hj0 : (0 : Int) ≤ j := by omega
      have hkj : k ≤ kPt L k j := kPt_le L k (Nat.zero_le j)
      have hkn := kPt_le L k (show j + 1 ≤ n from hlt)
      rw [kPt_step] at hkn
      have hks := kPt_step L k j
      have hr1 := hm.row
      obtain ⟨v0, hv0⟩ := rowG_next (gPart A L C k) (m := j * 7) (j := j * 7) (l := l) (Nat.le_refl _) (by omega)
      obtain ⟨v1, hv1⟩ := rowG_next (gPart A L C k) (m := j * 7) (j := j * 7 + 1) (l := l) (by omega) (by omega)
      have c0 := hr1.cell _ hv0
      have c1 := hr1.cell _ hv1
      have c2 := hr1.cell _ ((rowG_old (gPart A L C k) (m := j * 7) (by omega) (by omega)).trans (h.lists j hlt 0 (by omega)))
      have f0 := hr1.frozen (j * 7)
      have f1 := hr1.frozen (j * 7 + 1)
      have hset := (hr1.set (j * 7) (gPart A L C k (j * 7))).set (j * 7 + 1) (gPart A L C k (j * 7 + 1))
      rw [rowG_set _ (by omega), rowG_set _ (by omega), gPart_0, gPart_1] at hset
      have ob := ((Only.refl (fun x => x = b) X).set (b := b) rfl (j * 7) (.int .i64 (kPt L k j))).set (b := b) rfl (j * 7 + 1) (.int .i64 (kPt L k j + 1))
      have m0 := hm.sets h ob hset
      generalize hK : kPt L k j = K at hkj hkn hks ob m0
      clear hr1 hv0 hv1 hset ob
      go_wp2_with fail
      generalize (X.setCell ⟨b, j * 7, none⟩ (.int .i64 K)).setCell ⟨b, j * 7 + 1, none⟩ (.int .i64 (K + 1)) = w0 at m0 ⊢
      clear c0 c1 c2 f0 f1
      refine (markStrings_any (A j 0) (L j 0) (C j 0) (K + 1 + 1) w0 (m0.left j hlt 0 (by omega) (by omega)) (by omega) (by omega)).mono ?_
      rintro e w1 ⟨rfl, g0, o0⟩
      have m1 := m0.step h hlt (by omega) (by show SlotG w1 _ _ _ _ (gFoe (kPt L k j + 2)); rw [hK, show K + 2 = K + 1 + 1 by omega]; exact g0) o0
      have d1 := m1.row.cell _ ((rowG_old (gPart A L C k) (m := j * 7 + 1 + 1) (by omega) (by omega)).trans (h.lists j hlt 1 (by omega)))
      go_wp2_with fail
      clear d1
      have p1 : pS (L j) (kPt L k j) 1 = K + 1 + 1 + (L j 0 : Int) := by show kPt L k j + 2 + (L j 0 : Int) = _; rw [hK]; omega
      refine (markUseS_any (A j 1) (L j 1) (C j 1) (K + 1 + 1 + (L j 0 : Int)) w1 (m1.left j hlt 1 (by omega) (by omega)) (by omega) (by omega)).mono ?_
      rintro e w2 ⟨rfl, g1, o1⟩
      have m2 := m1.step h hlt (by omega) (by rw [p1]; exact g1) o1
      have d2 := m2.row.cell _ ((rowG_old (gPart A L C k) (m := j * 7 + 1 + 1) (by omega) (by omega)).trans (h.lists j hlt 2 (by omega)))
      have p2 : pS (L j) (kPt L k j) 2 = K + 1 + 1 + (L j 0 : Int) + ((L j 1 * 3 : Nat) : Int) := by show kPt L k j + 2 + (L j 0 : Int) + ((L j 1 * 3 : Nat) : Int) = _; rw [hK]; omega
      generalize hU : ((L j 1 * 3 : Nat) : Int) = U at hkn hks p2
      clear g0 g1 o0 o1 m0 m1 p1
      go_wp2_with fail
      clear d2
      refine (markStrings_any (A j 2) (L j 2) (C j 2) (K + 1 + 1 + (L j 0 : Int) + U) w2 (m2.left j hlt 2 (by omega) (by omega)) (by omega) (by omega)).mono ?_
      rintro e w3 ⟨rfl, g2, o2⟩
      have m3 := m2.step h hlt (by omega) (by rw [p2]; exact g2) o2
      have d3 := m3.row.cell _ ((rowG_old (gPart A L C k) (m := j * 7 + 1 + 1) (by omega) (by omega)).trans (h.lists j hlt 3 (by omega)))
      have p3 : pS (L j) (kPt L k j) 3 = K + 1 + 1 + (L j 0 : Int) + U + (L j 2 : Int) := by show kPt L k j + 2 + (L j 0 : Int) + ((L j 1 * 3 : Nat) : Int) + (L j 2 : Int) = _; rw [hK, hU]; omega
      go_wp2_with fail
      clear d3
      refine (markStrings_any (A j 3) (L j 3) (C j 3) (K + 1 + 1 + (L j 0 : Int) + U + (L j 2 : Int)) w3 (m3.left j hlt 3 (by omega) (by omega)) (by omega) (by omega)).mono ?_
      rintro e w4 ⟨rfl, g3, o3⟩
      have m4 := m3.step h hlt (by omega) (by rw [p3]; exact g3) o3
      clear g2 g3 o2 o3 m2 m3 p2 p3
      have hr4 := m4.row
      rw [rowG_keep _ ((h.lists j hlt 0 (by omega)).trans (by rw [gPart_c _ _ _ _ _ _ (by omega)]) : l[j * 7 + 1 + 1]? = some (gPart A L C k (j * 7 + 2 + 0))),
        rowG_keep _ ((h.lists j hlt 1 (by omega)).trans (by rw [gPart_c _ _ _ _ _ _ (by omega)]) : l[j * 7 + 1 + 1 + 1]? = some (gPart A L C k (j * 7 + 2 + 1))),
        rowG_keep _ ((h.lists j hlt 2 (by omega)).trans (by rw [gPart_c _ _ _ _ _ _ (by omega)]) : l[j * 7 + 1 + 1 + 1 + 1]? = some (gPart A L C k (j * 7 + 2 + 2))),
        rowG_keep _ ((h.lists j hlt 3 (by omega)).trans (by rw [gPart_c _ _ _ _ _ _ (by omega)]) : l[j * 7 + 1 + 1 + 1 + 1 + 1]? = some (gPart A L C k (j * 7 + 2 + 3)))] at hr4
      obtain ⟨v6, hv6⟩ := rowG_next (gPart A L C k) (m := j * 7 + 6) (j := j * 7 + 6) (l := l) (Nat.le_refl _) (by omega)
      have c6 := hr4.cell _ hv6
      have f6 := hr4.frozen (j * 7 + 6)
      have hset := hr4.set (j * 7 + 6) (gPart A L C k (j * 7 + 6))
      rw [rowG_set _ (show j * 7 + 6 < l.length by omega), gPart_6] at hset
      have p4 : pS (L j) (kPt L k j) 4 = K + 1 + 1 + (L j 0 : Int) + U + (L j 2 : Int) + (L j 3 : Int) := by show kPt L k j + 2 + (L j 0 : Int) + ((L j 1 * 3 : Nat) : Int) + (L j 2 : Int) + (L j 3 : Int) = _; rw [hK, hU]; omega
      rw [p4] at hset
      have ob := (Only.refl (fun x => x = b) w4).set (b := b) rfl (j * 7 + 6) (.bool ((K + 1 + 1 + (L j 0 : Int) + U + (L j 2 : Int) + (L j 3 : Int)) % 3 == 0))
      have m5 := (m4.sets h ob hset).next
      have hU0 : 0 ≤ U := by omega
      have hZ : (0 : Int) ≤ K + 1 + 1 + (L j 0 : Int) + U + (L j 2 : Int) + (L j 3 : Int) := by omega
      have hZ9 : K + 1 + 1 + (L j 0 : Int) + U + (L j 2 : Int) + (L j 3 : Int) + 1 ≤ 1000000000 := by omega
      have hks2 : kPt L k (j + 1) = K + 1 + 1 + (L j 0 : Int) + U + (L j 2 : Int) + (L j 3 : Int) + 1 := by rw [hks]; omega
      generalize K + 1 + 1 + (L j 0 : Int) + U + (L j 2 : Int) + (L j 3 : Int) = Z at hset ob m5 hZ hZ9 hks2 ⊢
      clear hset ob m4 hr4 hv6 p4
      go_wp2
      go_roundw
      case rel => exact ⟨j + 1, _, rfl, by omega, by go_num, by rw [hks2], by rw [show (j + 1) * 7 = j * 7 + 6 + 1 by omega]; exact m5⟩
      case measure => simp [intOf]; omega
    · have : j = n := by omega
      subst this
      go_wp2
      go_ret
      exact ⟨rfl, hm⟩

end Go.Proofs.YtfmhkicncgccjaaGreatDoor

/- What the law's own sz functions tell of how much there is in all. -/
namespace Go.Proofs.YtfmhkicncgccjaaGreatDoor
open Go.RowKit Go.Sort
set_option linter.unusedSimpArgs false
set_option linter.unusedVariables false

def sumTo : Nat → (Nat → Nat) → Nat
  | 0, _ => 0
  | n + 1, f => sumTo n f + f n
theorem sumTo_succ (n : Nat) (f : Nat → Nat) : sumTo (n + 1) f = sumTo n f + f n := rfl
theorem sumTo_at {n : Nat} {f : Nat → Nat} {i : Nat} (h : i < n) : f i ≤ sumTo n f := by
  induction n with
  | zero => omega
  | succ n ih =>
    rw [sumTo_succ]
    by_cases e : i = n
    · subst e; omega
    · have := ih (by omega); omega
/-- How many elements a want's lists, a book's lists have in all. -/
def wW (y : Want) : Nat := y.stuffs.length + y.uses.length + y.opens.length + y.shuts.length
def wB (x : Book) : Nat := x.foes.length + (x.spots.length + sumTo x.spots.length (fun i => (gp x.spots i).may.length)) + x.valves.length + (x.parts.length + sumTo x.parts.length (fun i => wW (gq x.parts i).want))
theorem wantRoom_of {y : Want} (h : wW y ≤ 1048576) : WantRoom y := by
  unfold wW at h
  exact ⟨by omega, by omega, by omega, by omega⟩
theorem bookRoom_of {x : Book} (h : wB x ≤ 1048576) : BookRoom x := by
  unfold wB at h
  refine ⟨by omega, by omega, fun s hs => ?_, by omega, by omega, fun p hp => wantRoom_of ?_⟩
  · obtain ⟨i, hi, rfl⟩ := List.getElem_of_mem hs
    have := sumTo_at (f := fun i => (gp x.spots i).may.length) hi
    rw [← gp_lt hi]
    omega
  · obtain ⟨i, hi, rfl⟩ := List.getElem_of_mem hp
    have := sumTo_at (f := fun i => wW (gq x.parts i).want) hi
    rw [← gq_lt hi]
    omega

set_option maxHeartbeats 400000 in
theorem szStringS_w (a : Option Addr) (cap : Nat) (ss : List ByteArray) (left : Int) (w : World) (hm : StrsAt w a ss) (hf : Fit ss) (h0 : -1 ≤ left) (h1 : left ≤ 1048576) :
    Calls Tryz.prog 20 #[.slice a ss.length cap, .int .i64 left] w fun e w' => (∃ r : Int, e = .returned (.int .i64 r) ∧ -1 ≤ r ∧ r ≤ left ∧ (0 ≤ r → (ss.length : Int) ≤ left - r)) ∧ w = w' := by
  obtain ⟨hl, hs⟩ := hf
  unfold maxLen at hl hs
  by_cases hneg : left - ss.length < 0
  · go_enter Tryz.func20, Tryz.ntmps20
    go_wp2
    go_ret
    exact ⟨⟨-1, rfl, by omega, by omega, by omega⟩, rfl⟩
  · go_enter Tryz.func20, Tryz.ntmps20
    go_wp2
    go_loop [1, 5] (fun t i => ∃ (k : Nat) (l : Int), k ≤ ss.length ∧ i = .int .i64 k ∧ t = .int .i64 l ∧ 0 ≤ l ∧ l ≤ left - ss.length) (fun _ i => ss.length - (intOf i).toNat)
    case atStart => exact ⟨0, _, Nat.zero_le _, rfl, rfl, by omega, by omega⟩
    case round =>
      obtain ⟨k, l, hk, rfl, rfl, hl0, hl1⟩ := hrel
      by_cases hlt : k < ss.length
      · obtain ⟨b, o, ha, hb, hc⟩ := hm.at hlt
        have hsz : (gs ss k).size ≤ 2 ^ 63 - 1 := hs _ (gs_mem hlt)
        clear hs
        generalize gs ss k = s at hc hsz
        subst ha
        go_wp2
        · go_ret
          exact ⟨⟨-1, rfl, by omega, by omega, by omega⟩, rfl⟩
        · go_round
          case rel => exact ⟨k + 1, l - s.size, by omega, by go_num, rfl, by omega, by omega⟩
          case measure => simp [intOf]; omega
      · go_wp2
        go_ret
        exact ⟨⟨l, rfl, by omega, by omega, by omega⟩, rfl⟩

set_option maxHeartbeats 400000 in
theorem szClaimUseS_w (a : Option Addr) (cap : Nat) (us : List Use) (left : Int) (w : World) (hm : UsesAt w a us) (hl : us.length ≤ maxLen) (hs : ∀ u ∈ us, u.name.size ≤ maxLen) (h0 : -1 ≤ left) (h1 : left ≤ 1048576) :
    Calls Tryz.prog 22 #[.slice a us.length cap, .int .i64 left] w fun e w' => (∃ r : Int, e = .returned (.int .i64 r) ∧ -1 ≤ r ∧ r ≤ left ∧ (0 ≤ r → (us.length : Int) ≤ left - r)) ∧ Below w.heap.size w w' := by
  unfold maxLen at hl
  by_cases hneg : left - us.length < 0
  · go_enter Tryz.func22, Tryz.ntmps22
    go_wp2
    go_ret
    exact ⟨⟨-1, rfl, by omega, by omega, by omega⟩, Below.refl _ _⟩
  · go_enter Tryz.func22, Tryz.ntmps22
    go_wp2
    go_loopw [1, 5] (fun t i wr => ∃ (k : Nat) (l : Int), k ≤ us.length ∧ i = .int .i64 k ∧ t = .int .i64 l ∧ 0 ≤ l ∧ l ≤ left - us.length ∧ Below w.heap.size w wr) (fun _ i _ => us.length - (intOf i).toNat)
    case atStart => exact ⟨0, _, Nat.zero_le _, rfl, rfl, by omega, by omega, Below.refl _ _⟩
    case round =>
      obtain ⟨k, l, hk, rfl, rfl, hl0, hl1, hbel⟩ := hrel
      by_cases hlt : k < us.length
      · obtain ⟨b, o, ha, hb, hc0, hc1, hc2⟩ := (hm.later hbel).at hlt
        have hsz : (gu us k).name.size ≤ maxLen := hs _ (gu_mem hlt)
        clear hs
        generalize gu us k = u at hc0 hc1 hc2 hsz
        subst ha
        go_wp2_with (go_at_call 62; refine (szClaimUse_any u l _ hsz (by omega) (by omega)).mono ?_; rintro e w1 ⟨⟨r, rfl, hr0, hr1⟩, hb1⟩)
        · go_ret
          exact ⟨⟨-1, rfl, by omega, by omega, by omega⟩, hbel.trans (hb1.mono hbel.size)⟩
        · go_roundw
          case rel => exact ⟨k + 1, r, by omega, by go_num, rfl, by omega, by omega, hbel.trans (hb1.mono hbel.size)⟩
          case measure => simp [intOf]; omega
      · go_wp2
        go_ret
        exact ⟨⟨l, rfl, by omega, by omega, by omega⟩, hbel⟩

set_option maxHeartbeats 400000 in
theorem szClaimFoeS_w (a : Option Addr) (cap : Nat) (us : List Foe) (left : Int) (w : World) (hm : FoesAt w a us) (hf : FoesFit us) (h0 : -1 ≤ left) (h1 : left ≤ 1048576) :
    Calls Tryz.prog 18 #[.slice a us.length cap, .int .i64 left] w fun e w' => (∃ r : Int, e = .returned (.int .i64 r) ∧ -1 ≤ r ∧ r ≤ left ∧ (0 ≤ r → (us.length : Int) ≤ left - r)) ∧ Below w.heap.size w w' := by
  obtain ⟨hl, hs⟩ := hf
  unfold maxLen at hl
  by_cases hneg : left - us.length < 0
  · go_enter Tryz.func18, Tryz.ntmps18
    go_wp2
    go_ret
    exact ⟨⟨-1, rfl, by omega, by omega, by omega⟩, Below.refl _ _⟩
  · go_enter Tryz.func18, Tryz.ntmps18
    go_wp2
    go_loopw [1, 5] (fun t i wr => ∃ (k : Nat) (l : Int), k ≤ us.length ∧ i = .int .i64 k ∧ t = .int .i64 l ∧ 0 ≤ l ∧ l ≤ left - us.length ∧ Below w.heap.size w wr) (fun _ i _ => us.length - (intOf i).toNat)
    case atStart => exact ⟨0, _, Nat.zero_le _, rfl, rfl, by omega, by omega, Below.refl _ _⟩
    case round =>
      obtain ⟨k, l, hk, rfl, rfl, hl0, hl1, hbel⟩ := hrel
      by_cases hlt : k < us.length
      · obtain ⟨b, o, ha, hb, hc0, hc1⟩ := (hm.later hbel).at hlt
        have hsz := hs _ (gf_mem hlt)
        clear hs
        generalize gf us k = u at hc0 hc1 hsz
        subst ha
        go_wp2_with (go_at_call 59; refine (szClaimFoe_any u l _ hsz (by omega) (by omega)).mono ?_; rintro e w1 ⟨⟨r, rfl, hr0, hr1⟩, hb1⟩)
        · go_ret
          exact ⟨⟨-1, rfl, by omega, by omega, by omega⟩, hbel.trans (hb1.mono hbel.size)⟩
        · go_roundw
          case rel => exact ⟨k + 1, r, by omega, by go_num, rfl, by omega, by omega, hbel.trans (hb1.mono hbel.size)⟩
          case measure => simp [intOf]; omega
      · go_wp2
        go_ret
        exact ⟨⟨l, rfl, by omega, by omega, by omega⟩, hbel⟩

set_option maxHeartbeats 400000 in
theorem szClaimSpot_w (s : Spot) (m : Option Addr) (c : Nat) (left : Int) (w : World) (hm : StrsAt w m s.may) (h : s.name.size ≤ maxLen ∧ Fit s.may) (h0 : -1 ≤ left) (h1 : left ≤ 1048576) :
    Calls Tryz.prog 60 #[spotV s m c, .int .i64 left] w fun e w' => (∃ r : Int, e = .returned (.int .i64 r) ∧ -1 ≤ r ∧ r ≤ left ∧ (0 ≤ r → (s.may.length : Int) ≤ left - r)) ∧ Below w.heap.size w w' := by
  obtain ⟨ha, hb⟩ := h
  unfold maxLen at ha
  unfold spotV
  have hm' := hm.later ((Below.refl _ _).alloc (Nat.le_refl _) (.cells #[.string s.name, .int .i64 s.cap, .int .i64 s.least, .int .i64 s.most, .slice m s.may.length c] 90))
  by_cases hn : left - s.name.size < 0
  · go_enter Tryz.func60, Tryz.ntmps60
    go_wp2
    go_ret
    exact ⟨⟨-1, rfl, by omega, by omega, by omega⟩, (Below.refl _ _).alloc (Nat.le_refl _) _⟩
  · go_enter Tryz.func60, Tryz.ntmps60
    go_wp2_with (go_at_call 20; refine (szStringS_w m c s.may _ _ hm' hb (by omega) (by omega)).mono ?_; rintro e w1 ⟨⟨r, rfl, hr0, hr1, hr2⟩, rfl⟩)
    · go_ret
      exact ⟨⟨-1, rfl, by omega, by omega, by omega⟩, (Below.refl _ _).alloc (Nat.le_refl _) _⟩
    · go_ret
      exact ⟨⟨r, rfl, by omega, by omega, fun h => by have := hr2 h; omega⟩, (Below.refl _ _).alloc (Nat.le_refl _) _⟩

set_option maxHeartbeats 400000 in
theorem szClaimSpotS_w (a : Option Addr) (cap : Nat) (us : List Spot) (left : Int) (w : World) (hm : SpotsAt w a us) (hf : SpotsFit us) (h0 : -1 ≤ left) (h1 : left ≤ 1048576) :
    Calls Tryz.prog 19 #[.slice a us.length cap, .int .i64 left] w fun e w' => (∃ r : Int, e = .returned (.int .i64 r) ∧ -1 ≤ r ∧ r ≤ left ∧ (0 ≤ r → ((us.length + sumTo us.length (fun i => (gp us i).may.length) : Nat) : Int) ≤ left - r)) ∧ Below w.heap.size w w' := by
  obtain ⟨hl, hs⟩ := hf
  unfold maxLen at hl
  by_cases hneg : left - us.length < 0
  · go_enter Tryz.func19, Tryz.ntmps19
    go_wp2
    go_ret
    exact ⟨⟨-1, rfl, by omega, by omega, by omega⟩, Below.refl _ _⟩
  · go_enter Tryz.func19, Tryz.ntmps19
    go_wp2
    go_loopw [1, 5] (fun t i wr => ∃ (k : Nat) (l : Int), k ≤ us.length ∧ i = .int .i64 k ∧ t = .int .i64 l ∧ 0 ≤ l ∧ l ≤ left - ((us.length + sumTo k (fun i => (gp us i).may.length) : Nat) : Int) ∧ Below w.heap.size w wr) (fun _ i _ => us.length - (intOf i).toNat)
    case atStart => exact ⟨0, _, Nat.zero_le _, rfl, rfl, by omega, by simp [sumTo], Below.refl _ _⟩
    case round =>
      obtain ⟨k, l, hk, rfl, rfl, hl0, hl1, hbel⟩ := hrel
      have hstep := sumTo_succ k (fun i => (gp us i).may.length)
      by_cases hlt : k < us.length
      · obtain ⟨b, o, m, c, ha, hb, hc0, hc1, hc2, hc3, hc4, hst⟩ := (hm.later hbel).at hlt
        have hsz := hs _ (gp_mem hlt)
        clear hs
        subst ha
        go_wp2_with (go_at_call 60; refine (szClaimSpot_w (gp us k) m c l _ hst hsz (by omega) (by omega)).mono ?_; rintro e w1 ⟨⟨r, rfl, hr0, hr1, hr2⟩, hb1⟩)
        · go_ret
          exact ⟨⟨-1, rfl, by omega, by omega, by omega⟩, hbel.trans (hb1.mono hbel.size)⟩
        · go_roundw
          case rel => exact ⟨k + 1, r, by omega, by go_num, rfl, by omega, by rw [hstep]; have := hr2 (by omega); push_cast at *; omega, hbel.trans (hb1.mono hbel.size)⟩
          case measure => simp [intOf]; omega
      · go_wp2
        go_ret
        have : k = us.length := by omega
        subst this
        exact ⟨⟨l, rfl, by omega, by omega, fun _ => by omega⟩, hbel⟩

set_option maxHeartbeats 2000000 in
theorem szClaimWant_w (x : Want) (a2 a3 a4 a5 : Option Addr) (c2 c3 c4 c5 : Nat) (left : Int) (w : World) (hin : WantIn w x a2 a3 a4 a5) (hf : WantFit x) (h0 : -1 ≤ left) (h1 : left ≤ 1048576) :
    Calls Tryz.prog 6 #[wantW x a2 a3 a4 a5 c2 c3 c4 c5, .int .i64 left] w fun e w' => (∃ r : Int, e = .returned (.int .i64 r) ∧ -1 ≤ r ∧ r ≤ left ∧ (0 ≤ r → ((wW x : Nat) : Int) ≤ left - r)) ∧ Below w.heap.size w w' := by
  unfold wantW
  have HB0 : Below (w.alloc (.cells #[.int .i64 x.number, .int .i64 x.kind, .slice a2 x.stuffs.length c2, .slice a3 x.uses.length c3, .slice a4 x.opens.length c4, .slice a5 x.shuts.length c5] 30)).heap.size (w.alloc (.cells #[.int .i64 x.number, .int .i64 x.kind, .slice a2 x.stuffs.length c2, .slice a3 x.uses.length c3, .slice a4 x.opens.length c4, .slice a5 x.shuts.length c5] 30)) (w.alloc (.cells #[.int .i64 x.number, .int .i64 x.kind, .slice a2 x.stuffs.length c2, .slice a3 x.uses.length c3, .slice a4 x.opens.length c4, .slice a5 x.shuts.length c5] 30)) := Below.refl _ _
  have hin1 := hin.later (below_over HB0)
  go_enter Tryz.func6, Tryz.ntmps6
  go_wp2_with fail
  refine (szStringS_w a2 c2 x.stuffs left _ hin1.stuffs hf.stuffs h0 h1).mono ?_
  rintro e w1 ⟨⟨r1, rfl, hr1, hr1', hR1⟩, rfl⟩
  by_cases hn1 : r1 < 0
  · go_wp2
    go_ret
    exact ⟨⟨-1, rfl, by omega, by omega, by omega⟩, below_over HB0⟩
  have R1 := hR1 (by omega)
  clear hR1
  go_wp2_with fail
  refine (szClaimUseS_w a3 c3 x.uses r1 _ hin1.uses hf.usesLen hf.usesNames (by omega) (by omega)).mono ?_
  rintro e w2 ⟨⟨r2, rfl, hr2, hr2', hR2⟩, hb⟩
  have HB2 := HB0.trans (hb.mono HB0.size)
  obtain ⟨y0, y1, y2, y3, y4, y5, hz⟩ := box6 HB2
  clear hb HB0 hin1
  have hin2 := hin.later (below_over HB2)
  by_cases hn2 : r2 < 0
  · go_wp2
    go_ret
    exact ⟨⟨-1, rfl, by omega, by omega, by omega⟩, below_over HB2⟩
  have R2 := hR2 (by omega)
  clear hR2
  go_wp2_with fail
  refine (szStringS_w a4 c4 x.opens r2 _ hin2.opens hf.opens (by omega) (by omega)).mono ?_
  rintro e w3 ⟨⟨r3, rfl, hr3, hr3', hR3⟩, rfl⟩
  by_cases hn3 : r3 < 0
  · go_wp2
    go_ret
    exact ⟨⟨-1, rfl, by omega, by omega, by omega⟩, below_over HB2⟩
  have R3 := hR3 (by omega)
  clear hR3
  go_wp2_with fail
  refine (szStringS_w a5 c5 x.shuts r3 _ hin2.shuts hf.shuts (by omega) (by omega)).mono ?_
  rintro e w4 ⟨⟨r4, rfl, hr4, hr4', hR4⟩, rfl⟩
  by_cases hn4 : r4 < 0
  · go_wp2
    go_ret
    exact ⟨⟨-1, rfl, by omega, by omega, by omega⟩, below_over HB2⟩
  · have R4 := hR4 (by omega)
    go_wp2
    go_ret
    exact ⟨⟨r4, rfl, by omega, by omega, fun _ => by unfold wW; push_cast; omega⟩, below_over HB2⟩

set_option maxHeartbeats 400000 in
theorem szClaimPart_w (p : Part) (a2 a3 a4 a5 : Option Addr) (c2 c3 c4 c5 : Nat) (left : Int) (w : World) (hin : WantIn w p.want a2 a3 a4 a5) (hf : WantFit p.want) (h0 : -1 ≤ left) (h1 : left ≤ 1048576) :
    Calls Tryz.prog 61 #[partV p a2 a3 a4 a5 c2 c3 c4 c5, .int .i64 left] w fun e w' => (∃ r : Int, e = .returned (.int .i64 r) ∧ -1 ≤ r ∧ r ≤ left ∧ (0 ≤ r → ((wW p.want : Nat) : Int) ≤ left - r)) ∧ Below w.heap.size w w' := by
  unfold partV
  have hb0 : Below w.heap.size w (w.alloc (.cells #[.int .i64 p.want.number, .int .i64 p.want.kind, .slice a2 p.want.stuffs.length c2, .slice a3 p.want.uses.length c3, .slice a4 p.want.opens.length c4, .slice a5 p.want.shuts.length c5, .bool p.stopped] 93)) := (Below.refl _ _).alloc (Nat.le_refl _) _
  go_enter Tryz.func61, Tryz.ntmps61
  go_wp2_with (go_at_call 6; refine (szClaimWant_w p.want a2 a3 a4 a5 c2 c3 c4 c5 left _ (hin.later hb0) hf h0 h1).mono ?_; rintro e w1 ⟨⟨r, rfl, hr0, hr1, hr2⟩, hb1⟩)
  · go_ret
    exact ⟨⟨-1, rfl, by omega, by omega, by omega⟩, below_over hb1⟩
  · go_ret
    exact ⟨⟨r, rfl, by omega, by omega, hr2⟩, below_over hb1⟩

set_option maxHeartbeats 400000 in
theorem szClaimPartS_w (a : Option Addr) (cap : Nat) (us : List Part) (left : Int) (w : World) (hm : PartsAt w a us) (hf : PartsFit us) (h0 : -1 ≤ left) (h1 : left ≤ 1048576) :
    Calls Tryz.prog 21 #[.slice a us.length cap, .int .i64 left] w fun e w' => (∃ r : Int, e = .returned (.int .i64 r) ∧ -1 ≤ r ∧ r ≤ left ∧ (0 ≤ r → ((us.length + sumTo us.length (fun i => wW (gq us i).want) : Nat) : Int) ≤ left - r)) ∧ Below w.heap.size w w' := by
  obtain ⟨hl, hs⟩ := hf
  unfold maxLen at hl
  by_cases hneg : left - us.length < 0
  · go_enter Tryz.func21, Tryz.ntmps21
    go_wp2
    go_ret
    exact ⟨⟨-1, rfl, by omega, by omega, by omega⟩, Below.refl _ _⟩
  · go_enter Tryz.func21, Tryz.ntmps21
    go_wp2
    go_loopw [1, 5] (fun t i wr => ∃ (k : Nat) (l : Int), k ≤ us.length ∧ i = .int .i64 k ∧ t = .int .i64 l ∧ 0 ≤ l ∧ l ≤ left - ((us.length + sumTo k (fun i => wW (gq us i).want) : Nat) : Int) ∧ Below w.heap.size w wr) (fun _ i _ => us.length - (intOf i).toNat)
    case atStart => exact ⟨0, _, Nat.zero_le _, rfl, rfl, by omega, by simp [sumTo], Below.refl _ _⟩
    case round =>
      obtain ⟨k, l, hk, rfl, rfl, hl0, hl1, hbel⟩ := hrel
      have hstep := sumTo_succ k (fun i => wW (gq us i).want)
      by_cases hlt : k < us.length
      · obtain ⟨b, o, a2, a3, a4, a5, c2, c3, c4, c5, ha, hb, hc0, hc1, hc2, hc3, hc4, hc5, hc6, hst⟩ := (hm.later hbel).at hlt
        have hsz := hs _ (gq_mem hlt)
        clear hs
        subst ha
        go_wp2_with (go_at_call 61; refine (szClaimPart_w (gq us k) a2 a3 a4 a5 c2 c3 c4 c5 l _ hst hsz (by omega) (by omega)).mono ?_; rintro e w1 ⟨⟨r, rfl, hr0, hr1, hr2⟩, hb1⟩)
        · go_ret
          exact ⟨⟨-1, rfl, by omega, by omega, by omega⟩, hbel.trans (hb1.mono hbel.size)⟩
        · go_roundw
          case rel => exact ⟨k + 1, r, by omega, by go_num, rfl, by omega, by rw [hstep]; have := hr2 (by omega); push_cast at *; omega, hbel.trans (hb1.mono hbel.size)⟩
          case measure => simp [intOf]; omega
      · go_wp2
        go_ret
        have : k = us.length := by omega
        subst this
        exact ⟨⟨l, rfl, by omega, by omega, fun _ => by omega⟩, hbel⟩

set_option maxHeartbeats 1000000 in
theorem szClaimBook_w (x : Book) (af ap av aq : Option Addr) (cf cp cv cq : Nat) (left : Int) (w : World) (hin : BookIn w x af ap av aq) (hf : BookFit x) (h0 : -1 ≤ left) (h1 : left ≤ 1048576) :
    Calls Tryz.prog 5 #[bookV x af ap av aq cf cp cv cq, .int .i64 left] w fun e w' => (∃ r : Int, e = .returned (.int .i64 r) ∧ -1 ≤ r ∧ r ≤ left ∧ (0 ≤ r → ((wB x : Nat) : Int) ≤ left - r)) ∧ Below w.heap.size w w' := by
  unfold bookV
  have b0 : Below w.heap.size w (w.alloc (.cells #[.slice af x.foes.length cf, .slice ap x.spots.length cp, .slice av x.valves.length cv, .slice aq x.parts.length cq, .int .i64 x.seen] 27)) := (Below.refl _ _).alloc (Nat.le_refl _) _
  have i0 := Row.new w 27 [.slice af x.foes.length cf, .slice ap x.spots.length cp, .slice av x.valves.length cv, .slice aq x.parts.length cq, .int .i64 x.seen]
  go_enter Tryz.func5, Tryz.ntmps5
  go_wp2_with fail
  refine (szClaimFoeS_w af cf x.foes left _ (hin.later b0).foes hf.foes h0 h1).mono ?_
  rintro e w1 ⟨⟨r1, rfl, hr1, hr1', hR1⟩, hb⟩
  have b1 := b0.trans (hb.mono b0.size)
  have i1 := i0.later hb
  clear b0 i0 hb
  by_cases hn1 : r1 < 0
  · go_wp2
    go_ret
    exact ⟨⟨-1, rfl, by omega, by omega, by omega⟩, b1⟩
  have R1 := hR1 (by omega)
  clear hR1
  have q1 := i1.cell 1 rfl
  go_wp2_with fail
  refine (szClaimSpotS_w ap cp x.spots r1 _ (hin.later b1).spots hf.spots (by omega) (by omega)).mono ?_
  rintro e w2 ⟨⟨r2, rfl, hr2, hr2', hR2⟩, hb⟩
  have b2 := b1.trans (hb.mono b1.size)
  have i2 := i1.later hb
  clear b1 i1 hb q1
  by_cases hn2 : r2 < 0
  · go_wp2
    go_ret
    exact ⟨⟨-1, rfl, by omega, by omega, by omega⟩, b2⟩
  have R2 := hR2 (by omega)
  clear hR2
  have q2 := i2.cell 2 rfl
  go_wp2_with fail
  refine (szStringS_w av cv x.valves r2 _ (hin.later b2).valves hf.valves (by omega) (by omega)).mono ?_
  rintro e w3 ⟨⟨r3, rfl, hr3, hr3', hR3⟩, rfl⟩
  by_cases hn3 : r3 < 0
  · go_wp2
    go_ret
    exact ⟨⟨-1, rfl, by omega, by omega, by omega⟩, b2⟩
  have R3 := hR3 (by omega)
  clear hR3
  have q3 := i2.cell 3 rfl
  go_wp2_with fail
  refine (szClaimPartS_w aq cq x.parts r3 _ (hin.later b2).parts hf.parts (by omega) (by omega)).mono ?_
  rintro e w4 ⟨⟨r4, rfl, hr4, hr4', hR4⟩, hb⟩
  have b4 := b2.trans (hb.mono b2.size)
  by_cases hn4 : r4 < 0
  · go_wp2
    go_ret
    exact ⟨⟨-1, rfl, by omega, by omega, by omega⟩, b4⟩
  · have R4 := hR4 (by omega)
    go_wp2
    go_ret
    exact ⟨⟨r4, rfl, by omega, by omega, fun _ => by unfold wB; push_cast at *; omega⟩, b4⟩

end Go.Proofs.YtfmhkicncgccjaaGreatDoor
