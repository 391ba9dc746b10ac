/- Joined: GrM1, GrM2, GrM4, GrM6, GrM7, GrM9, GrMA, GrM3, GrM5, GrH6, GrM8, GrMB. -/
import Derived.Test.YtfmhkicncgccjaaGreatLeaf
import Derived.Lib.SlBytesRow
import Derived.Test.YtfmhkicncgccjaaGreatMem
import Derived.Deep.RegionHeld3
/- What the laws' markText answers: a text that its number alone tells. -/
namespace Go.Proofs.YtfmhkicncgccjaaGreat
open Go.RowKit Go.Sort
set_option linter.unusedSimpArgs false
set_option linter.unusedVariables false

/-- The digits of n ahead of out. -/
def digs : Nat → Nat → ByteArray → ByteArray
  | 0, _, out => out
  | f + 1, n, out => if n = 0 then out else digs f (n / 10) (⟨#[UInt8.ofNat (48 + n % 10)]⟩ ++ out)
/-- The mark of k. -/
def markT (k : Int) : ByteArray := if k ≤ 0 then ⟨#[109, 48]⟩ else ⟨#[109]⟩ ++ digs 19 k.toNat ⟨#[]⟩

theorem digs_zero (f : Nat) (out : ByteArray) : digs f 0 out = out := by
  cases f <;> simp [digs]
theorem digs_next {f n : Nat} (h : n ≠ 0) (out : ByteArray) : digs (f + 1) n out = digs f (n / 10) (⟨#[UInt8.ofNat (48 + n % 10)]⟩ ++ out) := by
  simp [digs, h]

set_option maxRecDepth 100000 in
set_option maxHeartbeats 2000000 in
theorem markText_any (k : Int) (h1 : k ≤ 1000000000) (w : World) :
    Calls Tryz.prog 113 #[.int .i64 k] w fun e w' => e = .returned (.string (markT k)) ∧ Below w.heap.size w w' := by
  go_enter Tryz.func113, Tryz.ntmps113
  by_cases hk : k ≤ 0
  · go_wp2
    go_ret
    exact ⟨by simp [markT, hk], Below.refl _ _⟩
  · go_wp2
    go_loopw [0, 3] (fun i o wv => ∃ (f n : Nat) (out : ByteArray) (X : World), X = wv ∧ i = .int .i64 n ∧ o = .string out ∧ n < 10 ^ f ∧ (n : Int) ≤ 1000000000 ∧ f ≤ 19 ∧ out.size ≤ 19 - f ∧ digs f n out = digs 19 k.toNat ⟨#[]⟩ ∧ Below w.heap.size w X) (fun i _ _ => (intOf i).toNat)
    case atStart => exact ⟨19, k.toNat, _, _, rfl, by rw [Int.toNat_of_nonneg (by omega)], rfl, by omega, by omega, by omega, by simp [ByteArray.size], rfl, Below.refl _ _⟩
    case round =>
      obtain ⟨f, n, out, X, rfl, rfl, rfl, hn, hn9, hf, hs, hd, hb⟩ := hrel
      by_cases h0 : n = 0
      · subst h0
        go_wp2
        go_ret
        rw [digs_zero] at hd
        refine ⟨?_, hb⟩
        rw [markT, if_neg (by omega), ← hd]
        rfl
      · have hpos : (0 : Int) < n := by omega
        obtain ⟨f, rfl⟩ : ∃ g, f = g + 1 := by
          cases f with
          | zero => simp at hn; omega
          | succ g => exact ⟨g, rfl⟩
        have hm : n % 10 < 10 := Nat.mod_lt _ (by omega)
        have hcv : (convert 22 9 (.slice (some ⟨X.heap.size, 0, none⟩) 1 1)).run Tryz.prog (X.alloc (.cells #[.int .u8 (48 + (n : Int) % 10)] 5)) = .ok (.string ⟨#[UInt8.ofNat (48 + n % 10)]⟩) (X.alloc (.cells #[.int .u8 (48 + (n : Int) % 10)] 5)) :=
          Lib.run_convert_whole (P := Tryz.prog) _ 22 5 9 Tryz.underlying22 Tryz.underlying5 Tryz.underlying9 X.heap.size 0 ⟨#[UInt8.ofNat (48 + n % 10)]⟩ (fun i hi => by
            obtain rfl : i = 0 := by have : i < 1 := hi; omega
            have e : (UInt8.ofNat (48 + n % 10)).toNat = 48 + n % 10 := by simp; omega
            rw [World.cell?_alloc_new]
            show some (Value.int .u8 (48 + (n : Int) % 10)) = some (Value.int .u8 ((UInt8.ofNat (48 + n % 10)).toNat : Int))
            rw [e]
            simp) 1
        rw [digs_next h0] at hd
        generalize UInt8.ofNat (48 + n % 10) = dg at hcv hd
        go_wp2
        go_roundw
        case rel =>
          refine ⟨f, n / 10, _, _, rfl, by go_num, rfl, ?_, by omega, by omega, ?_, hd, hb.alloc hb.size _⟩
          · rw [Nat.pow_succ] at hn; omega
          · rw [ByteArray.size_append]
            have : (ByteArray.mk #[dg]).size = 1 := rfl
            omega
        case measure => simp [intOf]; omega

end Go.Proofs.YtfmhkicncgccjaaGreat

/- Marks written into a list of texts, and held there. -/
namespace Go.Proofs.YtfmhkicncgccjaaGreat
open Go.RowKit Go.Sort
set_option linter.unusedSimpArgs false
set_option linter.unusedVariables false

/-- The world behind w in which only blocks of B, and new ones, may have changed. -/
structure Only (B : Nat → Prop) (w w' : World) : Prop where
  os : w'.os = w.os
  tape : w'.tape = w.tape
  output : w'.output = w.output
  size : w.heap.size ≤ w'.heap.size
  block : ∀ k, k < w.heap.size → ¬ B k → w'.heap[k]? = w.heap[k]?
theorem Only.refl (B : Nat → Prop) (w : World) : Only B w w := ⟨rfl, rfl, rfl, Nat.le_refl _, fun _ _ _ => rfl⟩
theorem Only.trans {B : Nat → Prop} {w w1 w2 : World} (h : Only B w w1) (h' : Only B w1 w2) : Only B w w2 :=
  ⟨h'.os.trans h.os, h'.tape.trans h.tape, h'.output.trans h.output, Nat.le_trans h.size h'.size, fun k hk hB => (h'.block k (Nat.lt_of_lt_of_le hk h.size) hB).trans (h.block k hk hB)⟩
theorem Only.of {B : Nat → Prop} {w w' : World} (h : Below w.heap.size w w') : Only B w w' := ⟨h.os, h.tape, h.output, h.size, fun k hk _ => h.block k hk⟩
theorem Only.mono {B B' : Nat → Prop} {w w' : World} (h : Only B w w') (hB : ∀ k, B k → B' k) : Only B' w w' := ⟨h.os, h.tape, h.output, h.size, fun k hk hn => h.block k hk fun hb => hn (hB k hb)⟩
theorem Only.below {B : Nat → Prop} {n : Nat} {w w' : World} (h : Only B w w') (hB : ∀ k, B k → n ≤ k) (hn : n ≤ w.heap.size) : Below n w w' :=
  ⟨h.os, h.tape, h.output, h.size, fun k hk => h.block k (Nat.lt_of_lt_of_le hk hn) fun hb => by have := hB k hb; omega⟩
theorem Only.set {B : Nat → Prop} {w w' : World} (h : Only B w w') {b : Nat} (hb : B b) (i : Nat) (v : Value) : Only B w (w'.setCell ⟨b, i, none⟩ v) :=
  ⟨h.os, h.tape, h.output, by simpa [World.setCell] using h.size, fun k hk hn => (Go.Deep.blk_setCell_other _ _ _ _ (fun e => hn (by have e' : k = b := e; rw [e']; exact hb))).trans (h.block k hk hn)⟩
theorem Row.only {B : Nat → Prop} {w w' : World} {b : Nat} {t : TypeId} {l : List Value} (h : Row w b t l) (ho : Only B w w') (hb : ¬ B b) : Row w' b t l := (ho.block _ h.lt hb).trans h

/-- n marks from k on. -/
def marks (k : Int) (n : Nat) : List ByteArray := (List.range n).map fun (j : Nat) => markT (k + j)
theorem marks_length (k : Int) (n : Nat) : (marks k n).length = n := by simp [marks]
theorem marks_at {k : Int} {n j : Nat} (h : j < n) : (marks k n)[j]? = some (markT (k + j)) := by simp [marks, h]
theorem marks_succ (k : Int) (n : Nat) : marks k (n + 1) = marks k n ++ [markT (k + n)] := by simp [marks, List.range_succ]
theorem marks_set (k : Int) (n : Nat) (l : List Value) (h : n < l.length) : ((marks k n).map Value.string ++ l.drop n).set n (.string (markT (k + n))) = (marks k (n + 1)).map Value.string ++ l.drop (n + 1) := by
  rw [List.set_append_right _ _ (by simp [marks_length])]
  simp only [List.length_map, marks_length, Nat.sub_self, marks_succ, List.map_append, List.append_assoc]
  rw [List.drop_eq_getElem_cons h, List.set_cons_zero]
  rfl

set_option maxRecDepth 100000 in
set_option maxHeartbeats 2000000 in
theorem markStringS_any (b n cap : Nat) (l : List Value) (k : Int) (w : World) (hr : Row w b 9 l) (hn : n ≤ l.length) (h0 : 0 ≤ k) (h1 : k + n ≤ 1000000000) :
    Calls Tryz.prog 64 #[.slice (some ⟨b, 0, none⟩) n cap, .int .i64 k] w fun e w' => e = .returned (.int .i64 (k + n)) ∧ Row w' b 9 ((marks k n).map Value.string ++ l.drop n) ∧ Only (fun x => x = b) w w' := by
  go_enter Tryz.func64, Tryz.ntmps64
  go_wp2
  go_loopw [1, 5] (fun kk i wv => ∃ (j : Nat) (X : World), X = wv ∧ j ≤ n ∧ i = .int .i64 j ∧ kk = .int .i64 (k + j) ∧ Row X b 9 ((marks k j).map Value.string ++ l.drop j) ∧ Only (fun x => x = b) w X) (fun _ i _ => n - (intOf i).toNat)
  case atStart => exact ⟨0, _, rfl, Nat.zero_le _, rfl, by simp, by simpa [marks] using hr, Only.refl _ _⟩
  case round =>
    obtain ⟨j, X, rfl, hj, rfl, rfl, hrow, ho⟩ := hrel
    by_cases hlt : j < n
    · have hlt2 : (j : Int) < n := by omega
      have hj0 : (0 : Int) ≤ j := by omega
      go_wp2_with fail
      refine (markText_any (k + j) (by omega) _).mono ?_
      rintro e w1 ⟨rfl, hb⟩
      have hr1 := hrow.later hb
      have ho1 := ho.trans (Only.of (B := fun x => x = b) hb)
      obtain ⟨v0, hv0⟩ : ∃ v, ((marks k j).map Value.string ++ l.drop j)[j]? = some v := by
        rw [List.getElem?_append_right (by simp [marks_length])]
        simp [marks_length]
        exact ⟨l[j], by simp [List.getElem?_eq_getElem (show j < l.length by omega)]⟩
      have c0 := hr1.cell j hv0
      have f0 := hr1.frozen j
      have hset := hr1.set j (.string (markT (k + j)))
      rw [marks_set k j l (by omega)] at hset
      have hos := ho1.set (b := b) rfl j (.string (markT (k + j)))
      clear hrow hr1 hb
      go_wp2
      go_roundw
      case rel => exact ⟨j + 1, _, rfl, by omega, by go_num, by go_num, hset, hos⟩
      case measure => simp [intOf]; omega
    · have : j = n := by omega
      subst this
      go_wp2
      go_ret
      exact ⟨rfl, hrow, ho⟩

end Go.Proofs.YtfmhkicncgccjaaGreat

/- Marks written into lists of foes and of uses. -/
namespace Go.Proofs.YtfmhkicncgccjaaGreat
open Go.RowKit Go.Sort
set_option linter.unusedSimpArgs false
set_option linter.unusedVariables false

/-- The cells l, the first m of them as g tells. -/
def rowG (g : Nat → Value) (m : Nat) (l : List Value) : List Value := (List.range m).map g ++ l.drop m
theorem rowG_zero (g : Nat → Value) (l : List Value) : rowG g 0 l = l := by simp [rowG]
theorem rowG_set (g : Nat → Value) {m : Nat} {l : List Value} (h : m < l.length) : (rowG g m l).set m (g m) = rowG g (m + 1) l := by
  unfold rowG
  rw [List.set_append_right _ _ (by simp)]
  simp only [List.length_map, List.length_range, Nat.sub_self, List.range_succ, List.map_append, List.append_assoc]
  rw [List.drop_eq_getElem_cons h, List.set_cons_zero]
  rfl
theorem rowG_keep (g : Nat → Value) {m : Nat} {l : List Value} (h : l[m]? = some (g m)) : rowG g m l = rowG g (m + 1) l := by
  obtain ⟨hm, e⟩ := List.getElem?_eq_some_iff.1 h
  rw [← rowG_set g hm]
  have h2 : (rowG g m l)[m]? = some (g m) := by
    unfold rowG
    rw [List.getElem?_append_right (by simp)]
    simpa using h
  obtain ⟨h3, e3⟩ := List.getElem?_eq_some_iff.1 h2
  rw [← e3]
  exact (List.set_getElem_self h3).symm
theorem rowG_length (g : Nat → Value) {m : Nat} {l : List Value} (h : m ≤ l.length) : (rowG g m l).length = l.length := by
  unfold rowG; simp; omega
theorem rowG_at (g : Nat → Value) {m j : Nat} {l : List Value} (h : j < m) : (rowG g m l)[j]? = some (g j) := by
  unfold rowG
  rw [List.getElem?_append_left (by simpa using h)]
  simp [h]
theorem rowG_old (g : Nat → Value) {m j : Nat} {l : List Value} (h : m ≤ j) (hl : m ≤ l.length) : (rowG g m l)[j]? = l[j]? := by
  unfold rowG
  rw [List.getElem?_append_right (by simpa using h)]
  simp
  congr 1
  omega
/-- What the cell at m holds that is not yet marked. -/
theorem rowG_next (g : Nat → Value) {m j : Nat} {l : List Value} (h : m ≤ j) (hj : j < l.length) : ∃ v, (rowG g m l)[j]? = some v := by
  refine ⟨l[j], ?_⟩
  rw [rowG_old g h (by omega)]
  exact List.getElem?_eq_getElem hj

/-- The cells of marked foes, of marked uses. -/
def gFoe (k : Int) (q : Nat) : Value := .string (markT (k + q))
def gUse (k : Int) (q : Nat) : Value := if q % 3 = 0 then .string (markT (k + q)) else .int .i64 (k + q)

set_option maxRecDepth 100000 in
set_option maxHeartbeats 2000000 in
theorem markFoes_any (b n cap : Nat) (l : List Value) (k : Int) (w : World) (hr : Row w b 70 l) (hn : n * 2 ≤ l.length) (h0 : 0 ≤ k) (h1 : k + n * 2 ≤ 1000000000) :
    Calls Tryz.prog 62 #[.slice (some ⟨b, 0, none⟩) n cap, .int .i64 k] w fun e w' => e = .returned (.int .i64 (k + (n * 2 : Nat))) ∧ Row w' b 70 (rowG (gFoe k) (n * 2) l) ∧ Only (fun x => x = b) w w' := by
  go_enter Tryz.func62, Tryz.ntmps62
  go_wp2
  go_loopw [1, 5] (fun kk i wv => ∃ (j : Nat) (X : World), X = wv ∧ j ≤ n ∧ i = .int .i64 j ∧ kk = .int .i64 (k + (j * 2 : Nat)) ∧ Row X b 70 (rowG (gFoe k) (j * 2) l) ∧ Only (fun x => x = b) w X) (fun _ i _ => n - (intOf i).toNat)
  case atStart => exact ⟨0, _, rfl, Nat.zero_le _, rfl, by simp, by rw [Nat.zero_mul, rowG_zero]; exact hr, Only.refl _ _⟩
  case round =>
    obtain ⟨j, X, rfl, hj, rfl, rfl, hrow, ho⟩ := hrel
    by_cases hlt : j < n
    · have hlt2 : (j : Int) < n := by omega
      have hj0 : (0 : Int) ≤ j := by omega
      go_wp2_with fail
      refine (markText_any (k + (j * 2 : Nat)) (by omega) _).mono ?_
      rintro e w1 ⟨rfl, hb⟩
      have hr1 := hrow.later hb
      have ho1 := ho.trans (Only.of (B := fun x => x = b) hb)
      obtain ⟨v0, hv0⟩ := rowG_next (gFoe k) (m := j * 2) (j := j * 2) (l := l) (Nat.le_refl _) (by omega)
      have c0 := hr1.cell _ hv0
      have f0 := hr1.frozen (j * 2)
      have hset := hr1.set (j * 2) (gFoe k (j * 2))
      rw [rowG_set _ (by omega)] at hset
      have hos := ho1.set (b := b) rfl (j * 2) (gFoe k (j * 2))
      unfold gFoe at hset hos
      clear hrow hr1 hb
      push_cast at hset hos
      go_wp2_with fail
      generalize w1.setCell ⟨b, j * 2, none⟩ (.string (markT (k + (j : Int) * 2))) = w2 at hset hos ⊢
      clear c0 f0 hv0
      refine (markText_any (k + (j : Int) * 2 + 1) (by omega) _).mono ?_
      rintro e w3 ⟨rfl, hb⟩
      have hr1 := hset.later hb
      have ho1 := hos.trans (Only.of (B := fun x => x = b) hb)
      obtain ⟨v0, hv0⟩ := rowG_next (gFoe k) (m := j * 2 + 1) (j := j * 2 + 1) (l := l) (Nat.le_refl _) (by omega)
      have c0 := hr1.cell _ hv0
      have f0 := hr1.frozen (j * 2 + 1)
      have hset2 := hr1.set (j * 2 + 1) (gFoe k (j * 2 + 1))
      have ex : rowG (fun q => Value.string (markT (k + (q : Int)))) (j * 2 + 1) l = rowG (gFoe k) (j * 2 + 1) l := rfl
      rw [ex, rowG_set _ (by omega)] at hset2
      have hos2 := ho1.set (b := b) rfl (j * 2 + 1) (gFoe k (j * 2 + 1))
      have eg : gFoe k (j * 2 + 1) = .string (markT (k + (j : Int) * 2 + 1)) := by unfold gFoe; congr 2; push_cast; omega
      rw [eg] at hset2 hos2
      clear hset hos hr1 hb ho1 ex eg
      go_wp2
      go_roundw
      case rel => exact ⟨j + 1, _, rfl, by omega, by go_num, by push_cast; go_num, by rw [show (j + 1) * 2 = j * 2 + 1 + 1 by omega]; exact hset2, hos2⟩
      case measure => simp [intOf]; omega
    · have : j = n := by omega
      subst this
      go_wp2
      go_ret
      exact ⟨rfl, hrow, ho⟩

set_option maxRecDepth 100000 in
set_option maxHeartbeats 2000000 in
theorem markUses_any (b n cap : Nat) (l : List Value) (k : Int) (w : World) (hr : Row w b 101 l) (hn : n * 3 ≤ l.length) (h0 : 0 ≤ k) (h1 : k + n * 3 ≤ 1000000000) :
    Calls Tryz.prog 114 #[.slice (some ⟨b, 0, none⟩) n cap, .int .i64 k] w fun e w' => e = .returned (.int .i64 (k + (n * 3 : Nat))) ∧ Row w' b 101 (rowG (gUse k) (n * 3) l) ∧ Only (fun x => x = b) w w' := by
  go_enter Tryz.func114, Tryz.ntmps114
  go_wp2
  go_loopw [1, 5] (fun kk i wv => ∃ (j : Nat) (X : World), X = wv ∧ j ≤ n ∧ i = .int .i64 j ∧ kk = .int .i64 (k + (j * 3 : Nat)) ∧ Row X b 101 (rowG (gUse k) (j * 3) l) ∧ Only (fun x => x = b) w X) (fun _ i _ => n - (intOf i).toNat)
  case atStart => exact ⟨0, _, rfl, Nat.zero_le _, rfl, by simp, by rw [Nat.zero_mul, rowG_zero]; exact hr, Only.refl _ _⟩
  case round =>
    obtain ⟨j, X, rfl, hj, rfl, rfl, hrow, ho⟩ := hrel
    by_cases hlt : j < n
    · have hlt2 : (j : Int) < n := by omega
      have hj0 : (0 : Int) ≤ j := by omega
      go_wp2_with fail
      refine (markText_any (k + (j * 3 : Nat)) (by omega) _).mono ?_
      rintro e w1 ⟨rfl, hb⟩
      have hr1 := hrow.later hb
      have ho1 := ho.trans (Only.of (B := fun x => x = b) hb)
      obtain ⟨v0, hv0⟩ := rowG_next (gUse k) (m := j * 3) (j := j * 3) (l := l) (Nat.le_refl _) (by omega)
      obtain ⟨v1, hv1⟩ := rowG_next (gUse k) (m := j * 3) (j := j * 3 + 1) (l := l) (by omega) (by omega)
      obtain ⟨v2, hv2⟩ := rowG_next (gUse k) (m := j * 3) (j := j * 3 + 2) (l := l) (by omega) (by omega)
      have c0 := hr1.cell _ hv0
      have c1 := hr1.cell _ hv1
      have c2 := hr1.cell _ hv2
      have f0 := hr1.frozen (j * 3)
      have f1 := hr1.frozen (j * 3 + 1)
      have f2 := hr1.frozen (j * 3 + 2)
      have e0 : gUse k (j * 3) = .string (markT (k + (j : Int) * 3)) := by unfold gUse; rw [if_pos (by omega)]; push_cast; rfl
      have e1 : gUse k (j * 3 + 1) = .int .i64 (k + (j : Int) * 3 + 1) := by unfold gUse; rw [if_neg (by omega)]; congr 1; push_cast; omega
      have e2 : gUse k (j * 3 + 1 + 1) = .int .i64 (k + (j : Int) * 3 + 1 + 1) := by unfold gUse; rw [if_neg (by omega)]; congr 1; push_cast; omega
      have hset := ((hr1.set (j * 3) (gUse k (j * 3))).set (j * 3 + 1) (gUse k (j * 3 + 1))).set (j * 3 + 1 + 1) (gUse k (j * 3 + 1 + 1))
      rw [rowG_set _ (by omega), rowG_set _ (by omega), rowG_set _ (by omega), e0, e1, e2] at hset
      have hos := ((ho1.set (b := b) rfl (j * 3) (gUse k (j * 3))).set (b := b) rfl (j * 3 + 1) (gUse k (j * 3 + 1))).set (b := b) rfl (j * 3 + 1 + 1) (gUse k (j * 3 + 1 + 1))
      rw [e0, e1, e2] at hos
      clear hrow hr1 hb e0 e1 e2 hv0 hv1 hv2
      go_wp2
      go_roundw
      case rel => exact ⟨j + 1, _, rfl, by omega, by go_num, by push_cast; go_num, by rw [show (j + 1) * 3 = j * 3 + 1 + 1 + 1 by omega]; exact hset, hos⟩
      case measure => simp [intOf]; omega
    · have : j = n := by omega
      subst this
      go_wp2
      go_ret
      exact ⟨rfl, hrow, ho⟩

end Go.Proofs.YtfmhkicncgccjaaGreat

/- Marks in a list of texts or of uses that may be empty. -/
namespace Go.Proofs.YtfmhkicncgccjaaGreat
open Go.RowKit Go.Sort
set_option linter.unusedSimpArgs false
set_option linter.unusedVariables false

/-- A list of n elements of s cells that lies in a block of its own, or is empty. -/
def Slot (w : World) (t : TypeId) (s : Nat) (a : Option Addr) (n : Nat) : Prop := n = 0 ∨ ∃ b l, a = some ⟨b, 0, none⟩ ∧ Row w b t l ∧ n * s ≤ l.length
/-- Such a list, its cells as g tells. -/
def SlotG (w : World) (t : TypeId) (s : Nat) (a : Option Addr) (n : Nat) (g : Nat → Value) : Prop := n = 0 ∨ ∃ b l, a = some ⟨b, 0, none⟩ ∧ Row w b t (rowG g (n * s) l) ∧ n * s ≤ l.length
/-- The block of such a list. -/
def InSlot (a : Option Addr) (n : Nat) (x : Nat) : Prop := n ≠ 0 ∧ ∃ o, a = some ⟨x, o, none⟩
theorem Slot.only {B : Nat → Prop} {w w' : World} {t : TypeId} {s n : Nat} {a : Option Addr} (h : Slot w t s a n) (ho : Only B w w') (hB : ∀ x, InSlot a n x → ¬ B x) : Slot w' t s a n := by
  rcases h with h | ⟨b, l, rfl, hr, hl⟩
  · exact Or.inl h
  · by_cases hn : n = 0
    · exact Or.inl hn
    · exact Or.inr ⟨b, l, rfl, hr.only ho (hB b ⟨hn, 0, rfl⟩), hl⟩
theorem SlotG.only {B : Nat → Prop} {w w' : World} {t : TypeId} {s n : Nat} {a : Option Addr} {g : Nat → Value} (h : SlotG w t s a n g) (ho : Only B w w') (hB : ∀ x, InSlot a n x → ¬ B x) : SlotG w' t s a n g := by
  rcases h with h | ⟨b, l, rfl, hr, hl⟩
  · exact Or.inl h
  · by_cases hn : n = 0
    · exact Or.inl hn
    · exact Or.inr ⟨b, l, rfl, hr.only ho (hB b ⟨hn, 0, rfl⟩), hl⟩
theorem SlotG.later {w w' : World} {t : TypeId} {s n : Nat} {a : Option Addr} {g : Nat → Value} (h : SlotG w t s a n g) (hb : Below w.heap.size w w') : SlotG w' t s a n g := h.only (Only.of (B := fun _ => False) hb) (fun _ _ => id)
theorem marks_row (k : Int) (n : Nat) (l : List Value) : (marks k n).map Value.string ++ l.drop n = rowG (gFoe k) n l := by
  unfold rowG marks gFoe
  rw [List.map_map]
  rfl

set_option maxHeartbeats 1000000 in
theorem markString0 (a : Option Addr) (cap : Nat) (k : Int) (w : World) :
    Calls Tryz.prog 64 #[.slice a 0 cap, .int .i64 k] w fun e w' => e = .returned (.int .i64 k) ∧ w' = w := by
  go_enter Tryz.func64, Tryz.ntmps64
  go_wp2
  go_loopw [1, 5] (fun kk i wv => wv = w ∧ i = .int .i64 0 ∧ kk = .int .i64 k) (fun _ _ _ => 0)
  case atStart => exact ⟨rfl, rfl, rfl⟩
  case round =>
    obtain ⟨rfl, rfl, rfl⟩ := hrel
    go_wp2
    go_ret
    exact ⟨rfl, rfl⟩
set_option maxHeartbeats 1000000 in
theorem markUses0 (a : Option Addr) (cap : Nat) (k : Int) (w : World) :
    Calls Tryz.prog 114 #[.slice a 0 cap, .int .i64 k] w fun e w' => e = .returned (.int .i64 k) ∧ w' = w := by
  go_enter Tryz.func114, Tryz.ntmps114
  go_wp2
  go_loopw [1, 5] (fun kk i wv => wv = w ∧ i = .int .i64 0 ∧ kk = .int .i64 k) (fun _ _ _ => 0)
  case atStart => exact ⟨rfl, rfl, rfl⟩
  case round =>
    obtain ⟨rfl, rfl, rfl⟩ := hrel
    go_wp2
    go_ret
    exact ⟨rfl, rfl⟩
theorem only_slot {w w' : World} {b n : Nat} (h : Only (fun x => x = b) w w') (hn : n ≠ 0) : Only (InSlot (some ⟨b, 0, none⟩) n) w w' :=
  h.mono fun x hx => ⟨hn, 0, by rw [hx]⟩
theorem markStrings_any (a : Option Addr) (n cap : Nat) (k : Int) (w : World) (h : Slot w 9 1 a n) (h0 : 0 ≤ k) (h1 : k + n ≤ 1000000000) :
    Calls Tryz.prog 64 #[.slice a n cap, .int .i64 k] w fun e w' => e = .returned (.int .i64 (k + n)) ∧ SlotG w' 9 1 a n (gFoe k) ∧ Only (InSlot a n) w w' := by
  by_cases hn : n = 0
  · subst hn
    refine (markString0 a cap k w).mono ?_
    rintro e w' ⟨rfl, rfl⟩
    exact ⟨by simp, Or.inl rfl, Only.refl _ _⟩
  · rcases h with h | ⟨b, l, rfl, hr, hl⟩
    · exact absurd h hn
    · refine (markStringS_any b n cap l k w hr (by omega) h0 h1).mono ?_
      rintro e w' ⟨rfl, h2, h3⟩
      rw [marks_row] at h2
      exact ⟨rfl, Or.inr ⟨b, l, rfl, by rw [Nat.mul_one]; exact h2, hl⟩, only_slot h3 hn⟩
theorem markUseS_any (a : Option Addr) (n cap : Nat) (k : Int) (w : World) (h : Slot w 101 3 a n) (h0 : 0 ≤ k) (h1 : k + n * 3 ≤ 1000000000) :
    Calls Tryz.prog 114 #[.slice a n cap, .int .i64 k] w fun e w' => e = .returned (.int .i64 (k + (n * 3 : Nat))) ∧ SlotG w' 101 3 a n (gUse k) ∧ Only (InSlot a n) w w' := by
  by_cases hn : n = 0
  · subst hn
    refine (markUses0 a cap k w).mono ?_
    rintro e w' ⟨rfl, rfl⟩
    exact ⟨by simp, Or.inl rfl, Only.refl _ _⟩
  · rcases h with h | ⟨b, l, rfl, hr, hl⟩
    · exact absurd h hn
    · refine (markUses_any b n cap l k w hr hl h0 h1).mono ?_
      rintro e w' ⟨rfl, h2, h3⟩
      exact ⟨rfl, Or.inr ⟨b, l, rfl, h2, hl⟩, only_slot h3 hn⟩

end Go.Proofs.YtfmhkicncgccjaaGreat

/- Marks written into a list of spots. -/
namespace Go.Proofs.YtfmhkicncgccjaaGreat
open Go.RowKit Go.Sort
set_option linter.unusedSimpArgs false
set_option linter.unusedVariables false

/-- The number with which the marks of spot i begin. -/
def kSp (L : Nat → Nat) (k : Int) : Nat → Int
  | 0 => k
  | i + 1 => kSp L k i + 4 + L i
theorem kSp_step (L : Nat → Nat) (k : Int) (i : Nat) : kSp L k (i + 1) = kSp L k i + 4 + L i := rfl
theorem kSp_le (L : Nat → Nat) (k : Int) {i j : Nat} (h : i ≤ j) : kSp L k i ≤ kSp L k j := by
  induction h with
  | refl => exact Int.le_refl _
  | step _ ih => rw [kSp_step]; omega
theorem kSp_ge (L : Nat → Nat) (k : Int) (i : Nat) : k + 4 * i ≤ kSp L k i := by
  induction i with
  | zero => simp [kSp]
  | succ i ih => rw [kSp_step]; push_cast; omega
/-- The cells of marked spots. -/
def gSpot (A : Nat → Option Addr) (L C : Nat → Nat) (k : Int) (q : Nat) : Value :=
  if q % 5 = 0 then .string (markT (kSp L k (q / 5))) else if q % 5 = 4 then .slice (A (q / 5)) (L (q / 5)) (C (q / 5)) else .int .i64 (kSp L k (q / 5) + (q % 5 : Nat))
theorem gSpot_0 (A : Nat → Option Addr) (L C : Nat → Nat) (k : Int) (j : Nat) : gSpot A L C k (j * 5) = .string (markT (kSp L k j)) := by
  unfold gSpot; rw [if_pos (by omega), show j * 5 / 5 = j by omega]
theorem gSpot_c (A : Nat → Option Addr) (L C : Nat → Nat) (k : Int) (j c : Nat) (h0 : 0 < c) (h1 : c < 4) : gSpot A L C k (j * 5 + c) = .int .i64 (kSp L k j + (c : Nat)) := by
  unfold gSpot; rw [if_neg (by omega), if_neg (by omega), show (j * 5 + c) / 5 = j by omega, show (j * 5 + c) % 5 = c by omega]
theorem gSpot_4 (A : Nat → Option Addr) (L C : Nat → Nat) (k : Int) (j : Nat) : gSpot A L C k (j * 5 + 4) = .slice (A j) (L j) (C j) := by
  unfold gSpot; rw [if_neg (by omega), if_pos (by omega), show (j * 5 + 4) / 5 = j by omega]

/-- n spots in block b, each list of theirs in a block of its own. -/
structure SpotsOwn (w : World) (b : Nat) (l : List Value) (n : Nat) (A : Nat → Option Addr) (L C : Nat → Nat) : Prop where
  row : Row w b 72 l
  len : n * 5 ≤ l.length
  may : ∀ i, i < n → l[i * 5 + 4]? = some (.slice (A i) (L i) (C i))
  slot : ∀ i, i < n → Slot w 9 1 (A i) (L i)
  apart : ∀ i, i < n → ¬ InSlot (A i) (L i) b
  each : ∀ i j, i < n → j < n → i ≠ j → ∀ x, InSlot (A i) (L i) x → ¬ InSlot (A j) (L j) x
/-- The blocks of such a list. -/
def InSpots (b n : Nat) (A : Nat → Option Addr) (L : Nat → Nat) (x : Nat) : Prop := x = b ∨ ∃ i, i < n ∧ InSlot (A i) (L i) x

set_option maxRecDepth 100000 in
set_option maxHeartbeats 4000000 in
theorem markSpots_any (b n cap : Nat) (l : List Value) (A : Nat → Option Addr) (L C : Nat → Nat) (k : Int) (w : World) (h : SpotsOwn w b l n A L C) (h0 : 0 ≤ k) (h1 : kSp L k n ≤ 1000000000) :
    Calls Tryz.prog 63 #[.slice (some ⟨b, 0, none⟩) n cap, .int .i64 k] w fun e w' => e = .returned (.int .i64 (kSp L k n)) ∧ Row w' b 72 (rowG (gSpot A L C k) (n * 5) l) ∧
      (∀ i, i < n → SlotG w' 9 1 (A i) (L i) (gFoe (kSp L k i + 4))) ∧ Only (InSpots b n A L) w w' := by
  have hlen := h.len
  have hn9 := kSp_ge L k n
  go_enter Tryz.func63, Tryz.ntmps63
  go_wp2
  go_loopw [1, 5] (fun kk i wv => ∃ (j : Nat) (X : World), X = wv ∧ j ≤ n ∧ i = .int .i64 j ∧ kk = .int .i64 (kSp L k j) ∧ Row X b 72 (rowG (gSpot A L C k) (j * 5) l) ∧ (∀ i, i < j → SlotG X 9 1 (A i) (L i) (gFoe (kSp L k i + 4))) ∧
      (∀ i, j ≤ i → i < n → Slot X 9 1 (A i) (L i)) ∧ Only (InSpots b n A L) w X) (fun _ i _ => n - (intOf i).toNat)
  case atStart => exact ⟨0, _, rfl, Nat.zero_le _, rfl, rfl, by rw [Nat.zero_mul, rowG_zero]; exact h.row, fun i hi => absurd hi (Nat.not_lt_zero _), fun i _ hi => h.slot i hi, Only.refl _ _⟩
  case round =>
    obtain ⟨j, X, rfl, hj, rfl, rfl, hrow, hdone, hleft, ho⟩ := hrel
    by_cases hlt : j < n
    · have hlt2 : (j : Int) < n := by omega
      have hj0 : (0 : Int) ≤ j := by omega
      have hkj : k ≤ kSp L k j := kSp_le L k (Nat.zero_le j)
      have hkn := kSp_le L k (show j + 1 ≤ n from hlt)
      rw [kSp_step] at hkn
      have hks := kSp_step L k j
      generalize hK : kSp L k j = K at hkj hkn hks
      go_wp2_with fail
      refine (markText_any K (by omega) _).mono ?_
      rintro e w1 ⟨rfl, hb⟩
      have hr1 := hrow.later hb
      have ho1 := ho.trans (Only.of (B := InSpots b n A L) hb)
      obtain ⟨v0, hv0⟩ := rowG_next (gSpot A L C k) (m := j * 5) (j := j * 5) (l := l) (Nat.le_refl _) (by omega)
      obtain ⟨v1, hv1⟩ := rowG_next (gSpot A L C k) (m := j * 5) (j := j * 5 + 1) (l := l) (by omega) (by omega)
      obtain ⟨v2, hv2⟩ := rowG_next (gSpot A L C k) (m := j * 5) (j := j * 5 + 2) (l := l) (by omega) (by omega)
      obtain ⟨v3, hv3⟩ := rowG_next (gSpot A L C k) (m := j * 5) (j := j * 5 + 3) (l := l) (by omega) (by omega)
      have hv4 : (rowG (gSpot A L C k) (j * 5) l)[j * 5 + 4]? = some (.slice (A j) (L j) (C j)) := by rw [rowG_old _ (by omega) (by omega)]; exact h.may j hlt
      have c0 := hr1.cell _ hv0
      have c1 := hr1.cell _ hv1
      have c2 := hr1.cell _ hv2
      have c3 := hr1.cell _ hv3
      have c4 := hr1.cell _ hv4
      have f0 := hr1.frozen (j * 5)
      have f1 := hr1.frozen (j * 5 + 1)
      have f2 := hr1.frozen (j * 5 + 2)
      have f3 := hr1.frozen (j * 5 + 3)
      have e0 : gSpot A L C k (j * 5) = .string (markT K) := by rw [gSpot_0, hK]
      have e1 : gSpot A L C k (j * 5 + 1) = .int .i64 (K + 1) := by rw [gSpot_c _ _ _ _ _ _ (by omega) (by omega), hK]; rfl
      have e2 : gSpot A L C k (j * 5 + 1 + 1) = .int .i64 (K + 1 + 1) := by rw [show j * 5 + 1 + 1 = j * 5 + 2 by omega, gSpot_c _ _ _ _ _ _ (by omega) (by omega), hK]; congr 1; push_cast; omega
      have e3 : gSpot A L C k (j * 5 + 1 + 1 + 1) = .int .i64 (K + 1 + 1 + 1) := by rw [show j * 5 + 1 + 1 + 1 = j * 5 + 3 by omega, gSpot_c _ _ _ _ _ _ (by omega) (by omega), hK]; congr 1; push_cast; omega
      have hset := (((hr1.set (j * 5) (gSpot A L C k (j * 5))).set (j * 5 + 1) (gSpot A L C k (j * 5 + 1))).set (j * 5 + 1 + 1) (gSpot A L C k (j * 5 + 1 + 1))).set (j * 5 + 1 + 1 + 1) (gSpot A L C k (j * 5 + 1 + 1 + 1))
      rw [rowG_set _ (by omega), rowG_set _ (by omega), rowG_set _ (by omega), rowG_set _ (by omega), e0, e1, e2, e3] at hset
      have hBb : InSpots b n A L b := Or.inl rfl
      have hos := (((ho1.set hBb (j * 5) (gSpot A L C k (j * 5))).set hBb (j * 5 + 1) (gSpot A L C k (j * 5 + 1))).set hBb (j * 5 + 1 + 1) (gSpot A L C k (j * 5 + 1 + 1))).set hBb (j * 5 + 1 + 1 + 1) (gSpot A L C k (j * 5 + 1 + 1 + 1))
      rw [e0, e1, e2, e3] at hos
      have ob : Only (fun x => x = b) X ((((w1.setCell ⟨b, j * 5, none⟩ (.string (markT K))).setCell ⟨b, j * 5 + 1, none⟩ (.int .i64 (K + 1))).setCell ⟨b, j * 5 + 1 + 1, none⟩ (.int .i64 (K + 1 + 1))).setCell ⟨b, j * 5 + 1 + 1 + 1, none⟩ (.int .i64 (K + 1 + 1 + 1))) :=
        ((((Only.of (B := fun x => x = b) hb).set (b := b) rfl _ _).set (b := b) rfl _ _).set (b := b) rfl _ _).set (b := b) rfl _ _
      clear hr1 hb e0 e1 e2 e3 hv0 hv1 hv2 hv3 hv4 ho1 hrow
      go_wp2_with fail
      generalize (((w1.setCell ⟨b, j * 5, none⟩ (.string (markT K))).setCell ⟨b, j * 5 + 1, none⟩ (.int .i64 (K + 1))).setCell ⟨b, j * 5 + 1 + 1, none⟩ (.int .i64 (K + 1 + 1))).setCell ⟨b, j * 5 + 1 + 1 + 1, none⟩ (.int .i64 (K + 1 + 1 + 1)) = w2 at hset hos ob ⊢
      clear c0 c1 c2 c3 c4 f0 f1 f2 f3
      refine (markStrings_any (A j) (L j) (C j) (K + 1 + 1 + 1 + 1) w2 ((hleft j (Nat.le_refl _) hlt).only ob (fun x hx e => h.apart j hlt (by subst e; exact hx))) (by omega) (by omega)).mono ?_
      rintro e w3 ⟨rfl, hG, hO⟩
      have eK : K + 1 + 1 + 1 + 1 = kSp L k j + 4 := by rw [hK]; omega
      have hrow3 := hset.only hO (h.apart j hlt)
      rw [rowG_keep _ (show l[j * 5 + 1 + 1 + 1 + 1]? = some (gSpot A L C k (j * 5 + 1 + 1 + 1 + 1)) by rw [show j * 5 + 1 + 1 + 1 + 1 = j * 5 + 4 by omega, gSpot_4]; exact h.may j hlt), show j * 5 + 1 + 1 + 1 + 1 + 1 = (j + 1) * 5 by omega] at hrow3
      have hdone3 : ∀ i, i < j + 1 → SlotG w3 9 1 (A i) (L i) (gFoe (kSp L k i + 4)) := fun i hi => by
        by_cases e : i = j
        · subst e
          rw [← eK]
          exact hG
        · exact ((hdone i (by omega)).only ob (fun x hx e => h.apart i (by omega) (by subst e; exact hx))).only hO (fun x hx hx' => h.each i j (by omega) hlt e x hx hx')
      have hleft3 : ∀ i, j + 1 ≤ i → i < n → Slot w3 9 1 (A i) (L i) := fun i hi hin =>
        ((hleft i (by omega) hin).only ob (fun x hx e => h.apart i hin (by subst e; exact hx))).only hO (fun x hx hx' => h.each i j hin hlt (by omega) x hx hx')
      have ho3 := hos.trans (hO.mono (B' := InSpots b n A L) fun x hx => Or.inr ⟨j, hlt, hx⟩)
      clear hG hO hset hos ob hdone hleft ho
      go_wp2
      go_roundw
      case rel => exact ⟨j + 1, _, rfl, by omega, by go_num, by rw [hks], hrow3, hdone3, hleft3, ho3⟩
      case measure => simp [intOf]; omega
    · have : j = n := by omega
      subst this
      go_wp2
      go_ret
      exact ⟨rfl, hrow, hdone, ho⟩

end Go.Proofs.YtfmhkicncgccjaaGreat

/- Marks written into a list of parts. -/
namespace Go.Proofs.YtfmhkicncgccjaaGreat
open Go.RowKit Go.Sort
set_option linter.unusedSimpArgs false
set_option linter.unusedVariables false

/-- The four lists of a part: their elements' type, cells and marks; the number with which each begins. -/
def tS : Nat → TypeId
  | 1 => 101
  | _ => 9
def sS : Nat → Nat
  | 1 => 3
  | _ => 1
def gS : Nat → Int → Nat → Value
  | 1, k => gUse k
  | _, k => gFoe k
def pS (L : Nat → Nat) (K : Int) : Nat → Int
  | 0 => K + 2
  | 1 => K + 2 + L 0
  | 2 => K + 2 + L 0 + (L 1 * 3 : Nat)
  | 3 => K + 2 + L 0 + (L 1 * 3 : Nat) + L 2
  | _ => K + 2 + L 0 + (L 1 * 3 : Nat) + L 2 + L 3
/-- The number with which the marks of part i begin. -/
def kPt (L : Nat → Nat → Nat) (k : Int) : Nat → Int
  | 0 => k
  | i + 1 => pS (L i) (kPt L k i) 4 + 1
theorem kPt_step (L : Nat → Nat → Nat) (k : Int) (i : Nat) : kPt L k (i + 1) = kPt L k i + 2 + L i 0 + (L i 1 * 3 : Nat) + L i 2 + L i 3 + 1 := rfl
theorem kPt_le (L : Nat → Nat → Nat) (k : Int) {i j : Nat} (h : i ≤ j) : kPt L k i ≤ kPt L k j := by
  induction h with
  | refl => exact Int.le_refl _
  | step _ ih => rw [kPt_step]; omega
theorem kPt_ge (L : Nat → Nat → Nat) (k : Int) (i : Nat) : k + 3 * i ≤ kPt L k i := by
  induction i with
  | zero => simp [kPt]
  | succ i ih => rw [kPt_step]; push_cast; omega
/-- The cells of marked parts. -/
def gPart (A : Nat → Nat → Option Addr) (L C : Nat → Nat → Nat) (k : Int) (q : Nat) : Value :=
  if q % 7 = 0 then .int .i64 (kPt L k (q / 7)) else if q % 7 = 1 then .int .i64 (kPt L k (q / 7) + 1) else if q % 7 = 6 then .bool (pS (L (q / 7)) (kPt L k (q / 7)) 4 % 3 == 0) else .slice (A (q / 7) (q % 7 - 2)) (L (q / 7) (q % 7 - 2)) (C (q / 7) (q % 7 - 2))
theorem gPart_0 (A : Nat → Nat → Option Addr) (L C : Nat → Nat → Nat) (k : Int) (j : Nat) : gPart A L C k (j * 7) = .int .i64 (kPt L k j) := by
  unfold gPart; rw [if_pos (by omega), show j * 7 / 7 = j by omega]
theorem gPart_1 (A : Nat → Nat → Option Addr) (L C : Nat → Nat → Nat) (k : Int) (j : Nat) : gPart A L C k (j * 7 + 1) = .int .i64 (kPt L k j + 1) := by
  unfold gPart; rw [if_neg (by omega), if_pos (by omega), show (j * 7 + 1) / 7 = j by omega]
theorem gPart_6 (A : Nat → Nat → Option Addr) (L C : Nat → Nat → Nat) (k : Int) (j : Nat) : gPart A L C k (j * 7 + 6) = .bool (pS (L j) (kPt L k j) 4 % 3 == 0) := by
  unfold gPart; rw [if_neg (by omega), if_neg (by omega), if_pos (by omega), show (j * 7 + 6) / 7 = j by omega]
theorem gPart_c (A : Nat → Nat → Option Addr) (L C : Nat → Nat → Nat) (k : Int) (j c : Nat) (h : c < 4) : gPart A L C k (j * 7 + 2 + c) = .slice (A j c) (L j c) (C j c) := by
  unfold gPart; rw [if_neg (by omega), if_neg (by omega), if_neg (by omega), show (j * 7 + 2 + c) / 7 = j by omega, show (j * 7 + 2 + c) % 7 - 2 = c by omega]

/-- n parts in block b, each list of theirs in a block of its own. -/
structure PartsOwn (w : World) (b : Nat) (l : List Value) (n : Nat) (A : Nat → Nat → Option Addr) (L C : Nat → Nat → Nat) : Prop where
  row : Row w b 61 l
  len : n * 7 ≤ l.length
  lists : ∀ i, i < n → ∀ c, c < 4 → l[i * 7 + 2 + c]? = some (.slice (A i c) (L i c) (C i c))
  slot : ∀ i, i < n → ∀ c, c < 4 → Slot w (tS c) (sS c) (A i c) (L i c)
  apart : ∀ i, i < n → ∀ c, c < 4 → ¬ InSlot (A i c) (L i c) b
  each : ∀ i c j d, i < n → c < 4 → j < n → d < 4 → (i ≠ j ∨ c ≠ d) → ∀ x, InSlot (A i c) (L i c) x → ¬ InSlot (A j d) (L j d) x
/-- The blocks of such a list. -/
def InParts (b n : Nat) (A : Nat → Nat → Option Addr) (L : Nat → Nat → Nat) (x : Nat) : Prop := x = b ∨ ∃ i, i < n ∧ ∃ c, c < 4 ∧ InSlot (A i c) (L i c) x

/-- In the midst of marking: m cells of the row, and the lists ahead of list c of part j. -/
structure Mid (w : World) (b : Nat) (l : List Value) (n : Nat) (A : Nat → Nat → Option Addr) (L C : Nat → Nat → Nat) (k : Int) (j c m : Nat) (W : World) : Prop where
  row : Row W b 61 (rowG (gPart A L C k) m l)
  done : ∀ i, i < n → ∀ d, d < 4 → (i < j ∨ (i = j ∧ d < c)) → SlotG W (tS d) (sS d) (A i d) (L i d) (gS d (pS (L i) (kPt L k i) d))
  left : ∀ i, i < n → ∀ d, d < 4 → ¬ (i < j ∨ (i = j ∧ d < c)) → Slot W (tS d) (sS d) (A i d) (L i d)
  only : Only (InParts b n A L) w W
theorem Mid.sets {w : World} {b : Nat} {l : List Value} {n : Nat} {A : Nat → Nat → Option Addr} {L C : Nat → Nat → Nat} {k : Int} {j c m m' : Nat} {W W' : World} (hp : PartsOwn w b l n A L C) (h : Mid w b l n A L C k j c m W) (ho : Only (fun x => x = b) W W') (hr : Row W' b 61 (rowG (gPart A L C k) m' l)) : Mid w b l n A L C k j c m' W' :=
  ⟨hr, fun i hi d hd hc => (h.done i hi d hd hc).only ho (fun x hx e => hp.apart i hi d hd (by subst e; exact hx)), fun i hi d hd hc => (h.left i hi d hd hc).only ho (fun x hx e => hp.apart i hi d hd (by subst e; exact hx)), h.only.trans (ho.mono fun x hx => Or.inl hx)⟩
theorem Mid.step {w : World} {b : Nat} {l : List Value} {n : Nat} {A : Nat → Nat → Option Addr} {L C : Nat → Nat → Nat} {k : Int} {j c m : Nat} {W W' : World} (hp : PartsOwn w b l n A L C) (h : Mid w b l n A L C k j c m W) (hj : j < n) (hc4 : c < 4) (hg : SlotG W' (tS c) (sS c) (A j c) (L j c) (gS c (pS (L j) (kPt L k j) c))) (ho : Only (InSlot (A j c) (L j c)) W W') : Mid w b l n A L C k j (c + 1) m W' := by
  refine ⟨h.row.only ho (hp.apart j hj c hc4), fun i hi d hd hc => ?_, fun i hi d hd hc => ?_, h.only.trans (ho.mono fun x hx => Or.inr ⟨j, hj, c, hc4, hx⟩)⟩
  · by_cases e : i = j ∧ d = c
    · obtain ⟨rfl, rfl⟩ := e
      exact hg
    · exact (h.done i hi d hd (by omega)).only ho (fun x hx hx' => hp.each i d j c hi hd hj hc4 (by omega) x hx hx')
  · exact (h.left i hi d hd (by omega)).only ho (fun x hx hx' => hp.each i d j c hi hd hj hc4 (by omega) x hx hx')
theorem Mid.next {w : World} {b : Nat} {l : List Value} {n : Nat} {A : Nat → Nat → Option Addr} {L C : Nat → Nat → Nat} {k : Int} {j m : Nat} {W : World} (h : Mid w b l n A L C k j 4 m W) : Mid w b l n A L C k (j + 1) 0 m W :=
  ⟨h.row, fun i hi d hd hc => h.done i hi d hd (by omega), fun i hi d hd hc => h.left i hi d hd (by omega), h.only⟩
theorem Mid.first {w : World} {b : Nat} {l : List Value} {n : Nat} {A : Nat → Nat → Option Addr} {L C : Nat → Nat → Nat} (k : Int) (h : PartsOwn w b l n A L C) : Mid w b l n A L C k 0 0 0 w :=
  ⟨by rw [rowG_zero]; exact h.row, fun i hi d hd hc => by omega, fun i hi d hd _ => h.slot i hi d hd, Only.refl _ _⟩

end Go.Proofs.YtfmhkicncgccjaaGreat

/- Marks written into a list of parts: the walk. -/
namespace Go.Proofs.YtfmhkicncgccjaaGreat
open Go.RowKit Go.Sort
set_option linter.unusedSimpArgs false
set_option linter.unusedVariables false

set_option maxRecDepth 100000 in
set_option maxHeartbeats 4000000 in
theorem markParts_any (b n cap : Nat) (l : List Value) (A : Nat → Nat → Option Addr) (L C : Nat → Nat → Nat) (k : Int) (w : World) (h : PartsOwn w b l n A L C) (h0 : 0 ≤ k) (h1 : kPt L k n ≤ 1000000000) :
    Calls Tryz.prog 65 #[.slice (some ⟨b, 0, none⟩) n cap, .int .i64 k] w fun e w' => e = .returned (.int .i64 (kPt L k n)) ∧ Mid w b l n A L C k n 0 (n * 7) w' := by
  have hlen := h.len
  have hn9 := kPt_ge L k n
  go_enter Tryz.func65, Tryz.ntmps65
  go_wp2
  go_loopw [1, 5] (fun kk i wv => ∃ (j : Nat) (X : World), X = wv ∧ j ≤ n ∧ i = .int .i64 j ∧ kk = .int .i64 (kPt L k j) ∧ Mid w b l n A L C k j 0 (j * 7) X) (fun _ i _ => n - (intOf i).toNat)
  case atStart => exact ⟨0, _, rfl, Nat.zero_le _, rfl, rfl, by rw [Nat.zero_mul]; exact Mid.first k h⟩
  case round =>
    obtain ⟨j, X, rfl, hj, rfl, rfl, hm⟩ := hrel
    by_cases hlt : j < n
    · have hlt2 : (j : Int) < n := by omega
      have hj0 : (0 : Int) ≤ j := by omega
      have hkj : k ≤ kPt L k j := kPt_le L k (Nat.zero_le j)
      have hkn := kPt_le L k (show j + 1 ≤ n from hlt)
      rw [kPt_step] at hkn
      have hks := kPt_step L k j
      have hr1 := hm.row
      obtain ⟨v0, hv0⟩ := rowG_next (gPart A L C k) (m := j * 7) (j := j * 7) (l := l) (Nat.le_refl _) (by omega)
      obtain ⟨v1, hv1⟩ := rowG_next (gPart A L C k) (m := j * 7) (j := j * 7 + 1) (l := l) (by omega) (by omega)
      have c0 := hr1.cell _ hv0
      have c1 := hr1.cell _ hv1
      have c2 := hr1.cell _ ((rowG_old (gPart A L C k) (m := j * 7) (by omega) (by omega)).trans (h.lists j hlt 0 (by omega)))
      have f0 := hr1.frozen (j * 7)
      have f1 := hr1.frozen (j * 7 + 1)
      have hset := (hr1.set (j * 7) (gPart A L C k (j * 7))).set (j * 7 + 1) (gPart A L C k (j * 7 + 1))
      rw [rowG_set _ (by omega), rowG_set _ (by omega), gPart_0, gPart_1] at hset
      have ob := ((Only.refl (fun x => x = b) X).set (b := b) rfl (j * 7) (.int .i64 (kPt L k j))).set (b := b) rfl (j * 7 + 1) (.int .i64 (kPt L k j + 1))
      have m0 := hm.sets h ob hset
      generalize hK : kPt L k j = K at hkj hkn hks ob m0
      clear hr1 hv0 hv1 hset ob
      go_wp2_with fail
      generalize (X.setCell ⟨b, j * 7, none⟩ (.int .i64 K)).setCell ⟨b, j * 7 + 1, none⟩ (.int .i64 (K + 1)) = w0 at m0 ⊢
      clear c0 c1 c2 f0 f1
      refine (markStrings_any (A j 0) (L j 0) (C j 0) (K + 1 + 1) w0 (m0.left j hlt 0 (by omega) (by omega)) (by omega) (by omega)).mono ?_
      rintro e w1 ⟨rfl, g0, o0⟩
      have m1 := m0.step h hlt (by omega) (by show SlotG w1 _ _ _ _ (gFoe (kPt L k j + 2)); rw [hK, show K + 2 = K + 1 + 1 by omega]; exact g0) o0
      have d1 := m1.row.cell _ ((rowG_old (gPart A L C k) (m := j * 7 + 1 + 1) (by omega) (by omega)).trans (h.lists j hlt 1 (by omega)))
      go_wp2_with fail
      clear d1
      have p1 : pS (L j) (kPt L k j) 1 = K + 1 + 1 + (L j 0 : Int) := by show kPt L k j + 2 + (L j 0 : Int) = _; rw [hK]; omega
      refine (markUseS_any (A j 1) (L j 1) (C j 1) (K + 1 + 1 + (L j 0 : Int)) w1 (m1.left j hlt 1 (by omega) (by omega)) (by omega) (by omega)).mono ?_
      rintro e w2 ⟨rfl, g1, o1⟩
      have m2 := m1.step h hlt (by omega) (by rw [p1]; exact g1) o1
      have d2 := m2.row.cell _ ((rowG_old (gPart A L C k) (m := j * 7 + 1 + 1) (by omega) (by omega)).trans (h.lists j hlt 2 (by omega)))
      have p2 : pS (L j) (kPt L k j) 2 = K + 1 + 1 + (L j 0 : Int) + ((L j 1 * 3 : Nat) : Int) := by show kPt L k j + 2 + (L j 0 : Int) + ((L j 1 * 3 : Nat) : Int) = _; rw [hK]; omega
      generalize hU : ((L j 1 * 3 : Nat) : Int) = U at hkn hks p2
      clear g0 g1 o0 o1 m0 m1 p1
      go_wp2_with fail
      clear d2
      refine (markStrings_any (A j 2) (L j 2) (C j 2) (K + 1 + 1 + (L j 0 : Int) + U) w2 (m2.left j hlt 2 (by omega) (by omega)) (by omega) (by omega)).mono ?_
      rintro e w3 ⟨rfl, g2, o2⟩
      have m3 := m2.step h hlt (by omega) (by rw [p2]; exact g2) o2
      have d3 := m3.row.cell _ ((rowG_old (gPart A L C k) (m := j * 7 + 1 + 1) (by omega) (by omega)).trans (h.lists j hlt 3 (by omega)))
      have p3 : pS (L j) (kPt L k j) 3 = K + 1 + 1 + (L j 0 : Int) + U + (L j 2 : Int) := by show kPt L k j + 2 + (L j 0 : Int) + ((L j 1 * 3 : Nat) : Int) + (L j 2 : Int) = _; rw [hK, hU]; omega
      go_wp2_with fail
      clear d3
      refine (markStrings_any (A j 3) (L j 3) (C j 3) (K + 1 + 1 + (L j 0 : Int) + U + (L j 2 : Int)) w3 (m3.left j hlt 3 (by omega) (by omega)) (by omega) (by omega)).mono ?_
      rintro e w4 ⟨rfl, g3, o3⟩
      have m4 := m3.step h hlt (by omega) (by rw [p3]; exact g3) o3
      clear g2 g3 o2 o3 m2 m3 p2 p3
      have hr4 := m4.row
      rw [rowG_keep _ ((h.lists j hlt 0 (by omega)).trans (by rw [gPart_c _ _ _ _ _ _ (by omega)]) : l[j * 7 + 1 + 1]? = some (gPart A L C k (j * 7 + 2 + 0))),
        rowG_keep _ ((h.lists j hlt 1 (by omega)).trans (by rw [gPart_c _ _ _ _ _ _ (by omega)]) : l[j * 7 + 1 + 1 + 1]? = some (gPart A L C k (j * 7 + 2 + 1))),
        rowG_keep _ ((h.lists j hlt 2 (by omega)).trans (by rw [gPart_c _ _ _ _ _ _ (by omega)]) : l[j * 7 + 1 + 1 + 1 + 1]? = some (gPart A L C k (j * 7 + 2 + 2))),
        rowG_keep _ ((h.lists j hlt 3 (by omega)).trans (by rw [gPart_c _ _ _ _ _ _ (by omega)]) : l[j * 7 + 1 + 1 + 1 + 1 + 1]? = some (gPart A L C k (j * 7 + 2 + 3)))] at hr4
      obtain ⟨v6, hv6⟩ := rowG_next (gPart A L C k) (m := j * 7 + 6) (j := j * 7 + 6) (l := l) (Nat.le_refl _) (by omega)
      have c6 := hr4.cell _ hv6
      have f6 := hr4.frozen (j * 7 + 6)
      have hset := hr4.set (j * 7 + 6) (gPart A L C k (j * 7 + 6))
      rw [rowG_set _ (show j * 7 + 6 < l.length by omega), gPart_6] at hset
      have p4 : pS (L j) (kPt L k j) 4 = K + 1 + 1 + (L j 0 : Int) + U + (L j 2 : Int) + (L j 3 : Int) := by show kPt L k j + 2 + (L j 0 : Int) + ((L j 1 * 3 : Nat) : Int) + (L j 2 : Int) + (L j 3 : Int) = _; rw [hK, hU]; omega
      rw [p4] at hset
      have ob := (Only.refl (fun x => x = b) w4).set (b := b) rfl (j * 7 + 6) (.bool ((K + 1 + 1 + (L j 0 : Int) + U + (L j 2 : Int) + (L j 3 : Int)) % 3 == 0))
      have m5 := (m4.sets h ob hset).next
      have hU0 : 0 ≤ U := by omega
      have hZ : (0 : Int) ≤ K + 1 + 1 + (L j 0 : Int) + U + (L j 2 : Int) + (L j 3 : Int) := by omega
      have hZ9 : K + 1 + 1 + (L j 0 : Int) + U + (L j 2 : Int) + (L j 3 : Int) + 1 ≤ 1000000000 := by omega
      have hks2 : kPt L k (j + 1) = K + 1 + 1 + (L j 0 : Int) + U + (L j 2 : Int) + (L j 3 : Int) + 1 := by rw [hks]; omega
      generalize K + 1 + 1 + (L j 0 : Int) + U + (L j 2 : Int) + (L j 3 : Int) = Z at hset ob m5 hZ hZ9 hks2 ⊢
      clear hset ob m4 hr4 hv6 p4
      go_wp2
      go_roundw
      case rel => exact ⟨j + 1, _, rfl, by omega, by go_num, by rw [hks2], by rw [show (j + 1) * 7 = j * 7 + 6 + 1 by omega]; exact m5⟩
      case measure => simp [intOf]; omega
    · have : j = n := by omega
      subst this
      go_wp2
      go_ret
      exact ⟨rfl, hm⟩

end Go.Proofs.YtfmhkicncgccjaaGreat

/- Marks held in a list of texts. -/
namespace Go.Proofs.YtfmhkicncgccjaaGreat
open Go.RowKit Go.Sort
set_option linter.unusedSimpArgs false
set_option linter.unusedVariables false

set_option maxRecDepth 100000 in
set_option maxHeartbeats 2000000 in
theorem heldStringS_any (b n cap : Nat) (l : List Value) (k : Int) (w : World) (hr : Row w b 9 ((marks k n).map Value.string ++ l)) (h0 : 0 ≤ k) (h1 : k + n ≤ 1000000000) :
    Calls Tryz.prog 68 #[.slice (some ⟨b, 0, none⟩) n cap, .int .i64 k] w fun e w' => e = .returned (.int .i64 (k + n)) ∧ Below w.heap.size w w' := by
  go_enter Tryz.func68, Tryz.ntmps68
  go_wp2
  go_loopw [1, 5] (fun kk i wv => ∃ (j : Nat) (X : World), X = wv ∧ j ≤ n ∧ i = .int .i64 j ∧ kk = .int .i64 (k + j) ∧ Below w.heap.size w X) (fun _ i _ => n - (intOf i).toNat)
  case atStart => exact ⟨0, _, rfl, Nat.zero_le _, rfl, by simp, Below.refl _ _⟩
  case round =>
    obtain ⟨j, X, rfl, hj, rfl, rfl, hb⟩ := hrel
    by_cases hlt : j < n
    · have hlt2 : (j : Int) < n := by omega
      have hj0 : (0 : Int) ≤ j := by omega
      have c0 : X.cell? ⟨b, j, none⟩ = some (.string (markT (k + j))) := (hr.later hb).cell j (by rw [List.getElem?_append_left (by simp [marks_length, hlt])]; simp [marks_at hlt])
      have hS : ∀ w', Below X.heap.size X w' → (w'.cell? ⟨b, j, none⟩ = some (.string (markT (k + j))) ∧ Below X.heap.size X w') := fun w' hb' => ⟨cell_later hb' c0, hb'⟩
      have hcall : ∀ W', Below X.heap.size X W' → Calls Tryz.prog 113 #[.int .i64 (k + j)] W' fun e w' => e = .returned (.string (markT (k + j))) ∧ Below X.heap.size X w' := fun W' h' =>
        (markText_any (k + j) (by omega) W').mono fun _ _ h => ⟨h.1, h'.trans (h.2.mono h'.size)⟩
      generalize markT (k + j) = s at c0 hS hcall
      go_wp2_with fail
      go_region_held3 (fun w' => (w'.cell? ⟨b, j, none⟩ = some (.string s) ∧ Below X.heap.size X w'))
        ((refine hS _ ?_; repeat (first | with_reducible assumption | with_reducible exact Below.refl _ _ | (with_reducible refine Below.drew ?_))))
        (first | (go_at_call 113; refine (hcall _ (by repeat (first | with_reducible assumption | with_reducible exact Below.refl _ _ | (with_reducible refine Below.drew ?_)))).mono ?_; rintro e w1 ⟨rfl, hb1⟩))
      have hb2 := hb.trans (hb1.mono hb.size)
      rename_i hHeld
      clear hHeld hS hcall c0
      go_wp2
      go_roundw
      case rel => exact ⟨j + 1, _, rfl, by omega, by go_num, by go_num, hb2⟩
      case measure => simp [intOf]; omega
    · have : j = n := by omega
      subst this
      go_wp2
      go_ret
      exact ⟨rfl, hb⟩

end Go.Proofs.YtfmhkicncgccjaaGreat

/- Marks held in lists of foes and of uses. -/
namespace Go.Proofs.YtfmhkicncgccjaaGreat
open Go.RowKit Go.Sort
set_option linter.unusedSimpArgs false
set_option linter.unusedVariables false

set_option maxRecDepth 100000 in
set_option maxHeartbeats 2000000 in
theorem heldFoes_any (b n cap : Nat) (l : List Value) (k : Int) (w : World) (hr : Row w b 70 (rowG (gFoe k) (n * 2) l)) (h0 : 0 ≤ k) (h1 : k + n * 2 ≤ 1000000000) :
    Calls Tryz.prog 66 #[.slice (some ⟨b, 0, none⟩) n cap, .int .i64 k] w fun e w' => e = .returned (.int .i64 (k + (n * 2 : Nat))) ∧ Below w.heap.size w w' := by
  go_enter Tryz.func66, Tryz.ntmps66
  go_wp2
  go_loopw [1, 5] (fun kk i wv => ∃ (j : Nat) (X : World), X = wv ∧ j ≤ n ∧ i = .int .i64 j ∧ kk = .int .i64 (k + (j * 2 : Nat)) ∧ Below w.heap.size w X) (fun _ i _ => n - (intOf i).toNat)
  case atStart => exact ⟨0, _, rfl, Nat.zero_le _, rfl, by simp, Below.refl _ _⟩
  case round =>
    obtain ⟨j, X, rfl, hj, rfl, rfl, hb⟩ := hrel
    by_cases hlt : j < n
    · have hlt2 : (j : Int) < n := by omega
      have hj0 : (0 : Int) ≤ j := by omega
      have hrX := hr.later hb
      have c0 : X.cell? ⟨b, j * 2, none⟩ = some (.string (markT (k + (j : Int) * 2))) := by
        rw [hrX.cell _ (rowG_at (gFoe k) (by omega))]; unfold gFoe; push_cast; rfl
      have c1 : X.cell? ⟨b, j * 2 + 1, none⟩ = some (.string (markT (k + (j : Int) * 2 + 1))) := by
        rw [hrX.cell _ (rowG_at (gFoe k) (by omega))]; unfold gFoe; congr 3; push_cast; omega
      have hS : ∀ w', Below X.heap.size X w' → (w'.cell? ⟨b, j * 2, none⟩ = some (.string (markT (k + (j : Int) * 2))) ∧ Below X.heap.size X w') := fun w' hb' => ⟨cell_later hb' c0, hb'⟩
      have hcall : ∀ W', Below X.heap.size X W' → Calls Tryz.prog 113 #[.int .i64 (k + (j : Int) * 2)] W' fun e w' => e = .returned (.string (markT (k + (j : Int) * 2))) ∧ Below X.heap.size X w' := fun W' h' =>
        (markText_any _ (by omega) W').mono fun _ _ h => ⟨h.1, h'.trans (h.2.mono h'.size)⟩
      generalize markT (k + (j : Int) * 2) = s at c0 hS hcall
      push_cast
      go_wp2_with fail
      go_region_held3 (fun w' => (w'.cell? ⟨b, j * 2, none⟩ = some (.string s) ∧ Below X.heap.size X w'))
        ((refine hS _ ?_; repeat (first | with_reducible assumption | with_reducible exact Below.refl _ _ | (with_reducible refine Below.drew ?_))))
        (first | (go_at_call 113; refine (hcall _ (by repeat (first | with_reducible assumption | with_reducible exact Below.refl _ _ | (with_reducible refine Below.drew ?_)))).mono ?_; rintro e w1 ⟨rfl, hb1⟩))
      have hb2 := hb.trans (hb1.mono hb.size)
      have c1' := cell_later hb1 c1
      rename_i hHeld
      clear hHeld hS hcall c0 c1 hrX
      have hS : ∀ w', Below w1.heap.size w1 w' → (w'.cell? ⟨b, j * 2 + 1, none⟩ = some (.string (markT (k + (j : Int) * 2 + 1))) ∧ Below w1.heap.size w1 w') := fun w' hb' => ⟨cell_later hb' c1', hb'⟩
      have hcall : ∀ W', Below w1.heap.size w1 W' → Calls Tryz.prog 113 #[.int .i64 (k + (j : Int) * 2 + 1)] W' fun e w' => e = .returned (.string (markT (k + (j : Int) * 2 + 1))) ∧ Below w1.heap.size w1 w' := fun W' h' =>
        (markText_any _ (by omega) W').mono fun _ _ h => ⟨h.1, h'.trans (h.2.mono h'.size)⟩
      generalize markT (k + (j : Int) * 2 + 1) = s1 at c1' hS hcall
      go_wp2_with fail
      go_region_held3 (fun w' => (w'.cell? ⟨b, j * 2 + 1, none⟩ = some (.string s1) ∧ Below w1.heap.size w1 w'))
        ((refine hS _ ?_; repeat (first | with_reducible assumption | with_reducible exact Below.refl _ _ | (with_reducible refine Below.drew ?_))))
        (first | (go_at_call 113; refine (hcall _ (by repeat (first | with_reducible assumption | with_reducible exact Below.refl _ _ | (with_reducible refine Below.drew ?_)))).mono ?_; rintro e w2 ⟨rfl, hb3⟩))
      have hb4 := hb2.trans (hb3.mono hb2.size)
      rename_i hHeld
      clear hHeld hS hcall c1'
      go_wp2
      go_roundw
      case rel => exact ⟨j + 1, _, rfl, by omega, by go_num, by push_cast; go_num, hb4⟩
      case measure => simp [intOf]; omega
    · have : j = n := by omega
      subst this
      go_wp2
      go_ret
      exact ⟨rfl, hb⟩

set_option maxRecDepth 100000 in
set_option maxHeartbeats 2000000 in
theorem heldUses_any (b n cap : Nat) (l : List Value) (k : Int) (w : World) (hr : Row w b 101 (rowG (gUse k) (n * 3) l)) (h0 : 0 ≤ k) (h1 : k + n * 3 ≤ 1000000000) :
    Calls Tryz.prog 115 #[.slice (some ⟨b, 0, none⟩) n cap, .int .i64 k] w fun e w' => e = .returned (.int .i64 (k + (n * 3 : Nat))) ∧ Below w.heap.size w w' := by
  go_enter Tryz.func115, Tryz.ntmps115
  go_wp2
  go_loopw [1, 5] (fun kk i wv => ∃ (j : Nat) (X : World), X = wv ∧ j ≤ n ∧ i = .int .i64 j ∧ kk = .int .i64 (k + (j * 3 : Nat)) ∧ Below w.heap.size w X) (fun _ i _ => n - (intOf i).toNat)
  case atStart => exact ⟨0, _, rfl, Nat.zero_le _, rfl, by simp, Below.refl _ _⟩
  case round =>
    obtain ⟨j, X, rfl, hj, rfl, rfl, hb⟩ := hrel
    by_cases hlt : j < n
    · have hlt2 : (j : Int) < n := by omega
      have hj0 : (0 : Int) ≤ j := by omega
      have hrX := hr.later hb
      have c0 : X.cell? ⟨b, j * 3, none⟩ = some (.string (markT (k + (j : Int) * 3))) := by
        rw [hrX.cell _ (rowG_at (gUse k) (by omega))]; unfold gUse; rw [if_pos (by omega)]; push_cast; rfl
      have c1 : X.cell? ⟨b, j * 3 + 1, none⟩ = some (.int .i64 (k + (j : Int) * 3 + 1)) := by
        rw [hrX.cell _ (rowG_at (gUse k) (by omega))]; unfold gUse; rw [if_neg (by omega)]; congr 2; push_cast; omega
      have c2 : X.cell? ⟨b, j * 3 + 2, none⟩ = some (.int .i64 (k + (j : Int) * 3 + 1 + 1)) := by
        rw [hrX.cell _ (rowG_at (gUse k) (by omega))]; unfold gUse; rw [if_neg (by omega)]; congr 2; push_cast; omega
      have hS : ∀ w', Below X.heap.size X w' → (w'.cell? ⟨b, j * 3, none⟩ = some (.string (markT (k + (j : Int) * 3))) ∧ Below X.heap.size X w') := fun w' hb' => ⟨cell_later hb' c0, hb'⟩
      have hcall : ∀ W', Below X.heap.size X W' → Calls Tryz.prog 113 #[.int .i64 (k + (j : Int) * 3)] W' fun e w' => e = .returned (.string (markT (k + (j : Int) * 3))) ∧ Below X.heap.size X w' := fun W' h' =>
        (markText_any _ (by omega) W').mono fun _ _ h => ⟨h.1, h'.trans (h.2.mono h'.size)⟩
      generalize markT (k + (j : Int) * 3) = s at c0 hS hcall
      push_cast
      go_wp2_with fail
      go_region_held3 (fun w' => (w'.cell? ⟨b, j * 3, none⟩ = some (.string s) ∧ Below X.heap.size X w'))
        ((refine hS _ ?_; repeat (first | with_reducible assumption | with_reducible exact Below.refl _ _ | (with_reducible refine Below.drew ?_))))
        (first | (go_at_call 113; refine (hcall _ (by repeat (first | with_reducible assumption | with_reducible exact Below.refl _ _ | (with_reducible refine Below.drew ?_)))).mono ?_; rintro e w1 ⟨rfl, hb1⟩))
      have hb2 := hb.trans (hb1.mono hb.size)
      have c1' := cell_later hb1 c1
      have c2' := cell_later hb1 c2
      rename_i hHeld
      clear hHeld hS hcall c0 c1 c2 hrX
      go_wp2
      go_roundw
      case rel => exact ⟨j + 1, _, rfl, by omega, by go_num, by push_cast; go_num, hb2⟩
      case measure => simp [intOf]; omega
    · have : j = n := by omega
      subst this
      go_wp2
      go_ret
      exact ⟨rfl, hb⟩

end Go.Proofs.YtfmhkicncgccjaaGreat

/- Marks held in a list of texts or of uses that may be empty. -/
namespace Go.Proofs.YtfmhkicncgccjaaGreat
open Go.RowKit Go.Sort
set_option linter.unusedSimpArgs false
set_option linter.unusedVariables false

set_option maxHeartbeats 1000000 in
theorem heldString0 (a : Option Addr) (cap : Nat) (k : Int) (w : World) :
    Calls Tryz.prog 68 #[.slice a 0 cap, .int .i64 k] w fun e w' => e = .returned (.int .i64 k) ∧ w' = w := by
  go_enter Tryz.func68, Tryz.ntmps68
  go_wp2
  go_loopw [1, 5] (fun kk i wv => wv = w ∧ i = .int .i64 0 ∧ kk = .int .i64 k) (fun _ _ _ => 0)
  case atStart => exact ⟨rfl, rfl, rfl⟩
  case round =>
    obtain ⟨rfl, rfl, rfl⟩ := hrel
    go_wp2
    go_ret
    exact ⟨rfl, rfl⟩
set_option maxHeartbeats 1000000 in
theorem heldUses0 (a : Option Addr) (cap : Nat) (k : Int) (w : World) :
    Calls Tryz.prog 115 #[.slice a 0 cap, .int .i64 k] w fun e w' => e = .returned (.int .i64 k) ∧ w' = w := by
  go_enter Tryz.func115, Tryz.ntmps115
  go_wp2
  go_loopw [1, 5] (fun kk i wv => wv = w ∧ i = .int .i64 0 ∧ kk = .int .i64 k) (fun _ _ _ => 0)
  case atStart => exact ⟨rfl, rfl, rfl⟩
  case round =>
    obtain ⟨rfl, rfl, rfl⟩ := hrel
    go_wp2
    go_ret
    exact ⟨rfl, rfl⟩

theorem heldStrings_any (a : Option Addr) (n cap : Nat) (k : Int) (w : World) (h : SlotG w 9 1 a n (gFoe k)) (h0 : 0 ≤ k) (h1 : k + n ≤ 1000000000) :
    Calls Tryz.prog 68 #[.slice a n cap, .int .i64 k] w fun e w' => e = .returned (.int .i64 (k + n)) ∧ Below w.heap.size w w' := by
  by_cases hn : n = 0
  · subst hn
    refine (heldString0 a cap k w).mono ?_
    rintro e w' ⟨rfl, rfl⟩
    exact ⟨by simp, Below.refl _ _⟩
  · rcases h with h | ⟨b, l, rfl, hr, hl⟩
    · exact absurd h hn
    · rw [Nat.mul_one, ← marks_row] at hr
      exact heldStringS_any b n cap _ k w hr h0 h1
theorem heldUseS_any (a : Option Addr) (n cap : Nat) (k : Int) (w : World) (h : SlotG w 101 3 a n (gUse k)) (h0 : 0 ≤ k) (h1 : k + n * 3 ≤ 1000000000) :
    Calls Tryz.prog 115 #[.slice a n cap, .int .i64 k] w fun e w' => e = .returned (.int .i64 (k + (n * 3 : Nat))) ∧ Below w.heap.size w w' := by
  by_cases hn : n = 0
  · subst hn
    refine (heldUses0 a cap k w).mono ?_
    rintro e w' ⟨rfl, rfl⟩
    exact ⟨by simp, Below.refl _ _⟩
  · rcases h with h | ⟨b, l, rfl, hr, hl⟩
    · exact absurd h hn
    · exact heldUses_any b n cap l k w hr h0 h1

end Go.Proofs.YtfmhkicncgccjaaGreat

/- Marks held in a list of spots. -/
namespace Go.Proofs.YtfmhkicncgccjaaGreat
open Go.RowKit Go.Sort
set_option linter.unusedSimpArgs false
set_option linter.unusedVariables false

set_option maxRecDepth 100000 in
set_option maxHeartbeats 4000000 in
theorem heldSpots_any (b n cap : Nat) (l : List Value) (A : Nat → Option Addr) (L C : Nat → Nat) (k : Int) (w : World) (hr : Row w b 72 (rowG (gSpot A L C k) (n * 5) l)) (hs : ∀ i, i < n → SlotG w 9 1 (A i) (L i) (gFoe (kSp L k i + 4))) (h0 : 0 ≤ k) (h1 : kSp L k n ≤ 1000000000) :
    Calls Tryz.prog 67 #[.slice (some ⟨b, 0, none⟩) n cap, .int .i64 k] w fun e w' => e = .returned (.int .i64 (kSp L k n)) ∧ Below w.heap.size w w' := by
  have hn9 := kSp_ge L k n
  go_enter Tryz.func67, Tryz.ntmps67
  go_wp2
  go_loopw [1, 5] (fun kk i wv => ∃ (j : Nat) (X : World), X = wv ∧ j ≤ n ∧ i = .int .i64 j ∧ kk = .int .i64 (kSp L k j) ∧ Below w.heap.size w X) (fun _ i _ => n - (intOf i).toNat)
  case atStart => exact ⟨0, _, rfl, Nat.zero_le _, rfl, rfl, Below.refl _ _⟩
  case round =>
    obtain ⟨j, X, rfl, hj, rfl, rfl, hb⟩ := hrel
    by_cases hlt : j < n
    · have hlt2 : (j : Int) < n := by omega
      have hj0 : (0 : Int) ≤ j := by omega
      have hkj : k ≤ kSp L k j := kSp_le L k (Nat.zero_le j)
      have hkn := kSp_le L k (show j + 1 ≤ n from hlt)
      rw [kSp_step] at hkn
      have hks := kSp_step L k j
      have hrX := hr.later hb
      have hsj := (hs j hlt).later hb
      have c0 := hrX.cell _ (rowG_at (gSpot A L C k) (l := l) (show j * 5 < n * 5 by omega))
      have c1 := hrX.cell _ (rowG_at (gSpot A L C k) (l := l) (show j * 5 + 1 < n * 5 by omega))
      have c2 := hrX.cell _ (rowG_at (gSpot A L C k) (l := l) (show j * 5 + 2 < n * 5 by omega))
      have c3 := hrX.cell _ (rowG_at (gSpot A L C k) (l := l) (show j * 5 + 3 < n * 5 by omega))
      have c4 := hrX.cell _ (rowG_at (gSpot A L C k) (l := l) (show j * 5 + 4 < n * 5 by omega))
      rw [gSpot_0] at c0
      rw [gSpot_c _ _ _ _ _ _ (by omega) (by omega)] at c1 c2 c3
      rw [gSpot_4] at c4
      generalize hK : kSp L k j = K at hkj hkn hks c0 c1 c2 c3 hsj
      have c1 : X.cell? ⟨b, j * 5 + 1, none⟩ = some (.int .i64 (K + 1)) := c1
      have c2 : X.cell? ⟨b, j * 5 + 2, none⟩ = some (.int .i64 (K + 1 + 1)) := by rw [c2]; congr 2; push_cast; omega
      have c3 : X.cell? ⟨b, j * 5 + 3, none⟩ = some (.int .i64 (K + 1 + 1 + 1)) := by rw [c3]; congr 2; push_cast; omega
      have hS : ∀ w', Below X.heap.size X w' → (w'.cell? ⟨b, j * 5, none⟩ = some (.string (markT K)) ∧ Below X.heap.size X w') := fun w' hb' => ⟨cell_later hb' c0, hb'⟩
      have hcall : ∀ W', Below X.heap.size X W' → Calls Tryz.prog 113 #[.int .i64 K] W' fun e w' => e = .returned (.string (markT K)) ∧ Below X.heap.size X w' := fun W' h' =>
        (markText_any _ (by omega) W').mono fun _ _ h => ⟨h.1, h'.trans (h.2.mono h'.size)⟩
      generalize markT K = s at c0 hS hcall
      have HK : Hid (kSp L k j = K) := hK
      clear hK
      go_wp2_with fail
      go_region_held3 (fun w' => (w'.cell? ⟨b, j * 5, none⟩ = some (.string s) ∧ Below X.heap.size X w'))
        ((refine hS _ ?_; repeat (first | with_reducible assumption | with_reducible exact Below.refl _ _ | (with_reducible refine Below.drew ?_))))
        (first | (go_at_call 113; refine (hcall _ (by repeat (first | with_reducible assumption | with_reducible exact Below.refl _ _ | (with_reducible refine Below.drew ?_)))).mono ?_; rintro e w1 ⟨rfl, hb1⟩))
      have hb2 := hb.trans (hb1.mono hb.size)
      have c1' := cell_later hb1 c1
      have c2' := cell_later hb1 c2
      have c3' := cell_later hb1 c3
      have c4' := cell_later hb1 c4
      have hsj1 := hsj.later hb1
      rename_i hHeld
      clear hHeld hS hcall c0 c1 c2 c3 c4 hrX hsj
      go_wp2_with fail
      refine (heldStrings_any (A j) (L j) (C j) (K + 1 + 1 + 1 + 1) _ (by rw [show K + 1 + 1 + 1 + 1 = K + 4 by omega]; exact hsj1) (by omega) (by omega)).mono ?_
      rintro e w3 ⟨rfl, hb3⟩
      have hb4 := hb2.trans (hb3.mono hb2.size)
      have hpos : (0 : Int) ≤ K + 1 + 1 + 1 + 1 + L j := by omega
      clear c1' c2' c3' c4' hsj1
      go_wp2
      go_roundw
      case rel => exact ⟨j + 1, _, rfl, by omega, by go_num, by rw [hks]; first | rfl | (congr 1; omega) | (congr 1; push_cast; omega), hb4⟩
      case measure => simp [intOf]; omega
    · have : j = n := by omega
      subst this
      go_wp2
      go_ret
      exact ⟨rfl, hb⟩

end Go.Proofs.YtfmhkicncgccjaaGreat

/- Marks held in a list of parts. -/
namespace Go.Proofs.YtfmhkicncgccjaaGreat
open Go.RowKit Go.Sort
set_option linter.unusedSimpArgs false
set_option linter.unusedVariables false

set_option maxRecDepth 100000 in
set_option maxHeartbeats 4000000 in
theorem heldParts_any (b n cap : Nat) (l : List Value) (A : Nat → Nat → Option Addr) (L C : Nat → Nat → Nat) (k : Int) (w : World) (hr : Row w b 61 (rowG (gPart A L C k) (n * 7) l)) (hs : ∀ i, i < n → ∀ d, d < 4 → SlotG w (tS d) (sS d) (A i d) (L i d) (gS d (pS (L i) (kPt L k i) d))) (h0 : 0 ≤ k) (h1 : kPt L k n ≤ 1000000000) :
    Calls Tryz.prog 69 #[.slice (some ⟨b, 0, none⟩) n cap, .int .i64 k] w fun e w' => e = .returned (.int .i64 (kPt L k n)) ∧ Below w.heap.size w w' := by
  have hn9 := kPt_ge L k n
  go_enter Tryz.func69, Tryz.ntmps69
  go_wp2
  go_loopw [1, 5] (fun kk i wv => ∃ (j : Nat) (X : World), X = wv ∧ j ≤ n ∧ i = .int .i64 j ∧ kk = .int .i64 (kPt L k j) ∧ Below w.heap.size w X) (fun _ i _ => n - (intOf i).toNat)
  case atStart => exact ⟨0, _, rfl, Nat.zero_le _, rfl, rfl, Below.refl _ _⟩
  case round =>
    obtain ⟨j, X, rfl, hj, rfl, rfl, hb⟩ := hrel
    by_cases hlt : j < n
    · have hlt2 : (j : Int) < n := by omega
      have hj0 : (0 : Int) ≤ j := by omega
      have hkj : k ≤ kPt L k j := kPt_le L k (Nat.zero_le j)
      have hkn := kPt_le L k (show j + 1 ≤ n from hlt)
      rw [kPt_step] at hkn
      have hks := kPt_step L k j
      have hrX := hr.later hb
      have c0 := hrX.cell _ (rowG_at (gPart A L C k) (l := l) (show j * 7 < n * 7 by omega))
      have c1 := hrX.cell _ (rowG_at (gPart A L C k) (l := l) (show j * 7 + 1 < n * 7 by omega))
      have c2 := hrX.cell _ (rowG_at (gPart A L C k) (l := l) (show j * 7 + 2 + 0 < n * 7 by omega))
      rw [gPart_0] at c0
      rw [gPart_1] at c1
      rw [gPart_c _ _ _ _ _ _ (by omega)] at c2
      have s0 := (hs j hlt 0 (by omega)).later hb
      have p0 : pS (L j) (kPt L k j) 0 = kPt L k j + 1 + 1 := by show kPt L k j + 2 = _; omega
      rw [p0] at s0
      have HK : Hid (∀ d, d < 4 → SlotG w (tS d) (sS d) (A j d) (L j d) (gS d (pS (L j) (kPt L k j) d))) := hs j hlt
      generalize hK : kPt L k j = K at hkj hkn hks c0 c1 s0
      go_wp2_with fail
      refine (heldStrings_any (A j 0) (L j 0) (C j 0) (K + 1 + 1) _ s0 (by omega) (by omega)).mono ?_
      rintro e w1 ⟨rfl, b1⟩
      have hb1 := hb.trans (b1.mono hb.size)
      have c3 := (hr.later hb1).cell _ (rowG_at (gPart A L C k) (l := l) (show j * 7 + 2 + 1 < n * 7 by omega))
      rw [gPart_c _ _ _ _ _ _ (by omega)] at c3
      have s1 := (HK.out 1 (by omega)).later hb1
      rw [show pS (L j) (kPt L k j) 1 = K + 1 + 1 + (L j 0 : Int) by show kPt L k j + 2 + (L j 0 : Int) = _; rw [hK]; omega] at s1
      have q1 : (0 : Int) ≤ K + 1 + 1 + (L j 0 : Int) := by omega
      clear c0 c1 c2 s0 hrX b1
      go_wp2_with fail
      refine (heldUseS_any (A j 1) (L j 1) (C j 1) (K + 1 + 1 + (L j 0 : Int)) _ s1 (by omega) (by omega)).mono ?_
      rintro e w2 ⟨rfl, b2⟩
      have hb2 := hb1.trans (b2.mono hb1.size)
      have c4 := (hr.later hb2).cell _ (rowG_at (gPart A L C k) (l := l) (show j * 7 + 2 + 2 < n * 7 by omega))
      rw [gPart_c _ _ _ _ _ _ (by omega)] at c4
      have s2 := (HK.out 2 (by omega)).later hb2
      rw [show pS (L j) (kPt L k j) 2 = K + 1 + 1 + (L j 0 : Int) + ((L j 1 * 3 : Nat) : Int) by show kPt L k j + 2 + (L j 0 : Int) + ((L j 1 * 3 : Nat) : Int) = _; rw [hK]; omega] at s2
      generalize hU : ((L j 1 * 3 : Nat) : Int) = U at hkn hks s2
      have q2 : (0 : Int) ≤ K + 1 + 1 + (L j 0 : Int) + U := by omega
      clear c3 s1 b2
      go_wp2_with fail
      refine (heldStrings_any (A j 2) (L j 2) (C j 2) (K + 1 + 1 + (L j 0 : Int) + U) _ s2 (by omega) (by omega)).mono ?_
      rintro e w3 ⟨rfl, b3⟩
      have hb3 := hb2.trans (b3.mono hb2.size)
      have c5 := (hr.later hb3).cell _ (rowG_at (gPart A L C k) (l := l) (show j * 7 + 2 + 3 < n * 7 by omega))
      rw [gPart_c _ _ _ _ _ _ (by omega)] at c5
      have s3 := (HK.out 3 (by omega)).later hb3
      rw [show pS (L j) (kPt L k j) 3 = K + 1 + 1 + (L j 0 : Int) + U + (L j 2 : Int) by show kPt L k j + 2 + (L j 0 : Int) + ((L j 1 * 3 : Nat) : Int) + (L j 2 : Int) = _; rw [hK, hU]; omega] at s3
      have q3 : (0 : Int) ≤ K + 1 + 1 + (L j 0 : Int) + U + (L j 2 : Int) := by omega
      clear c4 s2 b3
      go_wp2_with fail
      refine (heldStrings_any (A j 3) (L j 3) (C j 3) (K + 1 + 1 + (L j 0 : Int) + U + (L j 2 : Int)) _ s3 (by omega) (by omega)).mono ?_
      rintro e w4 ⟨rfl, b4⟩
      have hb4 := hb3.trans (b4.mono hb3.size)
      have c6 := (hr.later hb4).cell _ (rowG_at (gPart A L C k) (l := l) (show j * 7 + 6 < n * 7 by omega))
      rw [gPart_6, show pS (L j) (kPt L k j) 4 = K + 1 + 1 + (L j 0 : Int) + U + (L j 2 : Int) + (L j 3 : Int) by show kPt L k j + 2 + (L j 0 : Int) + ((L j 1 * 3 : Nat) : Int) + (L j 2 : Int) + (L j 3 : Int) = _; rw [hK, hU]; omega] at c6
      have q4 : (0 : Int) ≤ K + 1 + 1 + (L j 0 : Int) + U + (L j 2 : Int) + (L j 3 : Int) := by omega
      have q5 : K + 1 + 1 + (L j 0 : Int) + U + (L j 2 : Int) + (L j 3 : Int) + 1 ≤ 1000000000 := by omega
      have hks2 : kPt L k (j + 1) = K + 1 + 1 + (L j 0 : Int) + U + (L j 2 : Int) + (L j 3 : Int) + 1 := by rw [hks]; omega
      generalize K + 1 + 1 + (L j 0 : Int) + U + (L j 2 : Int) + (L j 3 : Int) = Z at c6 q4 q5 hks2 ⊢
      clear c5 s3 b4
      go_wp2
      go_roundw
      case rel => exact ⟨j + 1, _, rfl, by omega, by go_num, by rw [hks2], hb4⟩
      case measure => simp [intOf]; omega
    · have : j = n := by omega
      subst this
      go_wp2
      go_ret
      exact ⟨rfl, hb⟩

end Go.Proofs.YtfmhkicncgccjaaGreat

