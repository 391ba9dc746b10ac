/- Joined: Plain, Mem, Leaf, Uses, Lists, ListsB. -/
import Derived.WalkKit
import Derived.Test.YtfmhkicncgccjaaGreatProg
import Derived.WalkSpells
import Derived.WalkLawsBesides
import Derived.BigQuiet
import Derived.Lib.QuietBelow
import Derived.Deep.OwnRows
/- Plain facts on lists, bounded tests and names; nothing of the program. -/
namespace Go.Proofs.YtfmhkicncgccjaaGreat
open Go.RowKit

def allTo : Nat → (Nat → Bool) → Bool
 | 0, _ => true
 | n + 1, p => allTo n p && p n

theorem allTo_iff {n : Nat} {p : Nat → Bool} : allTo n p = true ↔ ∀ i, i < n → p i = true := by
 induction n with
 | zero => simp [allTo]
 | succ n ih =>
  simp only [allTo, Bool.and_eq_true, ih]
  constructor
  · rintro ⟨h, hn⟩ i hi
    by_cases e : i = n
    · subst e; exact hn
    · exact h i (by omega)
  · exact fun h => ⟨fun i hi => h i (by omega), h n (by omega)⟩

theorem allTo_false {n : Nat} {p : Nat → Bool} (k : Nat) (hk : k < n) (h : p k = false) : allTo n p = false := by
 cases e : allTo n p with
 | false => rfl
 | true => rw [allTo_iff.1 e k hk] at h; exact absurd h (by decide)

theorem allTo_succ {n : Nat} {p : Nat → Bool} (h : allTo n p = true) (hn : p n = true) : allTo (n + 1) p = true := by simp [allTo, h, hn]

def anyTo (n : Nat) (p : Nat → Bool) : Bool := !allTo n (fun i => !p i)

theorem anyTo_iff {n : Nat} {p : Nat → Bool} : anyTo n p = true ↔ ∃ i, i < n ∧ p i = true := by
 unfold anyTo
 cases e : allTo n (fun i => !p i) with
 | true =>
  have := allTo_iff.1 e
  simp
  intro i hi
  simpa using this i hi
 | false =>
  simp
  apply Classical.byContradiction
  intro hn
  have : allTo n (fun i => !p i) = true := allTo_iff.2 fun i hi => by
   cases h : p i with
   | false => rfl
   | true => exact absurd ⟨i, hi, h⟩ hn
  rw [this] at e
  cases e

theorem anyTo_true {n : Nat} {p : Nat → Bool} (k : Nat) (hk : k < n) (h : p k = true) : anyTo n p = true := anyTo_iff.2 ⟨k, hk, h⟩
theorem anyTo_none {n : Nat} {p : Nat → Bool} (h : allTo n (fun i => !p i) = true) : anyTo n p = false := by unfold anyTo; rw [h]; rfl

/-- A text of a list by its place. -/
def gs (ss : List ByteArray) (k : Nat) : ByteArray := ss.getD k .empty

theorem gs_lt {ss : List ByteArray} {k : Nat} (h : k < ss.length) : gs ss k = ss[k] := by simp [gs, h]
theorem gs_mem {ss : List ByteArray} {k : Nat} (h : k < ss.length) : gs ss k ∈ ss := by rw [gs_lt h]; exact List.getElem_mem _

/-- A letter of a name. -/
def letterB (c : Int) : Bool := decide (97 ≤ c) && decide (c ≤ 122) || decide (48 ≤ c) && decide (c ≤ 57) || c == 45

def byteAt (s : ByteArray) (k : Nat) : Int := ((s.data[k]?.getD 0).toNat : Int)

theorem byteAt_lt {s : ByteArray} {k : Nat} (h : k < s.size) : byteAt s k = (s[k].toNat : Int) := by
 have h' : k < s.data.size := h
 unfold byteAt
 rw [Array.getElem?_eq_getElem h']
 rfl

def inB (n lo hi : Int) : Bool := decide (lo ≤ n) && decide (n ≤ hi)

/-- A name. -/
def nameB (s : ByteArray) : Bool := inB s.size 1 8 && allTo s.size (fun k => letterB (byteAt s k))

theorem nameB_size {s : ByteArray} (h : inB s.size 1 8 = false) : nameB s = false := by unfold nameB; rw [h]; rfl
theorem nameB_bad {s : ByteArray} (k : Nat) (hk : k < s.size) (h : letterB (byteAt s k) = false) : nameB s = false := by
 unfold nameB; rw [allTo_false k hk h, Bool.and_false]
theorem nameB_good {s : ByteArray} (h : inB s.size 1 8 = true) (ha : allTo s.size (fun k => letterB (byteAt s k)) = true) : nameB s = true := by
 unfold nameB; rw [h, ha]; rfl

theorem letterB_high {c : Int} (h : 128 ≤ c) : letterB c = false := by
 unfold letterB
 simp
 omega

theorem ret_bool {a b : Bool} (h : a = b) : Ending.returned (.bool a) = .returned (.bool b) := by rw [h]

/-- Two texts are the same, as Go asks. -/
def eqS (s t : ByteArray) : Bool := s.toList == t.toList
theorem eqS_comm (s t : ByteArray) : eqS s t = eqS t s := by unfold eqS; rw [Bool.eq_iff_iff, beq_iff_eq, beq_iff_eq]; exact ⟨Eq.symm, Eq.symm⟩

/-- A text is ahead of another one, as Go asks. -/
def ltS (s t : ByteArray) : Bool := Op.bytesLess s.toList t.toList

def hasB (ss : List ByteArray) (s : ByteArray) : Bool := anyTo ss.length (fun i => eqS (gs ss i) s)

def shareB (xs ys : List ByteArray) : Bool := anyTo xs.length (fun i => hasB ys (gs xs i))

/-- A use. -/
structure Use where
 name : ByteArray
 role : Int
 amount : Int

def useNil : Use := ⟨.empty, 0, 0⟩

def gu (us : List Use) (k : Nat) : Use := us.getD k useNil

theorem gu_lt {us : List Use} {k : Nat} (h : k < us.length) : gu us k = us[k] := by simp [gu, h]
theorem gu_mem {us : List Use} {k : Nat} (h : k < us.length) : gu us k ∈ us := by rw [gu_lt h]; exact List.getElem_mem _

/-- A want. -/
structure Want where
 number : Int
 kind : Int
 stuffs : List ByteArray
 uses : List Use
 opens : List ByteArray
 shuts : List ByteArray

end Go.Proofs.YtfmhkicncgccjaaGreat

/- What a slice of texts and a slice of uses hold in memory, read by index, and that it stays so while older memory is left alone. -/
namespace Go.Proofs.YtfmhkicncgccjaaGreat
open Go.RowKit

/-- The slice at a holds at place k, one after another from there, the cells 'f k 0, f k 1, ..' (size many), for each k below n. -/
def RowAt (w : World) (a : Option Addr) (n size : Nat) (f : Nat → Nat → Value) : Prop :=
 ∀ k, k < n → ∃ b o, a = some ⟨b, o, none⟩ ∧ b < w.heap.size ∧ ∀ j, j < size → w.cell? ⟨b, o + k * size + j, none⟩ = some (f k j)

theorem RowAt.later {w w' : World} {a : Option Addr} {n size : Nat} {f : Nat → Nat → Value} (h : RowAt w a n size f) (hb : Below w.heap.size w w') : RowAt w' a n size f := by
 intro k hk
 obtain ⟨b, o, ha, hl, hc⟩ := h k hk
 exact ⟨b, o, ha, Nat.lt_of_lt_of_le hl hb.size, fun j hj => by rw [hb.cell (p := ⟨b, o + k * size + j, none⟩) hl]; exact hc j hj⟩

/-- A slice of texts. -/
def StrsAt (w : World) (a : Option Addr) (ss : List ByteArray) : Prop := RowAt w a ss.length 1 (fun k _ => .string (gs ss k))

theorem StrsAt.later {w w' : World} {a : Option Addr} {ss : List ByteArray} (h : StrsAt w a ss) (hb : Below w.heap.size w w') : StrsAt w' a ss := RowAt.later h hb

theorem StrsAt.at {w : World} {a : Option Addr} {ss : List ByteArray} (h : StrsAt w a ss) {k : Nat} (hk : k < ss.length) :
 ∃ b o, a = some ⟨b, o, none⟩ ∧ b < w.heap.size ∧ w.cell? ⟨b, o + k, none⟩ = some (.string (gs ss k)) := by
 obtain ⟨b, o, ha, hl, hc⟩ := h k hk
 have := hc 0 (by omega)
 simp only [Nat.mul_one, Nat.add_zero] at this
 exact ⟨b, o, ha, hl, this⟩

/-- The three cells of a use. -/
def useCell (u : Use) : Nat → Value
 | 0 => .string u.name
 | 1 => .int .i64 u.role
 | _ => .int .i64 u.amount

/-- A slice of uses. -/
def UsesAt (w : World) (a : Option Addr) (us : List Use) : Prop := RowAt w a us.length 3 (fun k => useCell (gu us k))

theorem UsesAt.later {w w' : World} {a : Option Addr} {us : List Use} (h : UsesAt w a us) (hb : Below w.heap.size w w') : UsesAt w' a us := RowAt.later h hb

theorem UsesAt.at {w : World} {a : Option Addr} {us : List Use} (h : UsesAt w a us) {k : Nat} (hk : k < us.length) :
 ∃ b o, a = some ⟨b, o, none⟩ ∧ b < w.heap.size ∧ w.cell? ⟨b, o + k * 3, none⟩ = some (.string (gu us k).name) ∧ w.cell? ⟨b, o + k * 3 + 1, none⟩ = some (.int .i64 (gu us k).role) ∧
  w.cell? ⟨b, o + k * 3 + 1 + 1, none⟩ = some (.int .i64 (gu us k).amount) := by
 obtain ⟨b, o, ha, hl, hc⟩ := h k hk
 exact ⟨b, o, ha, hl, hc 0 (by omega), hc 1 (by omega), hc 2 (by omega)⟩

/-- Every text of a list is one that can be. -/
def Fit (ss : List ByteArray) : Prop := ss.length ≤ maxLen ∧ ∀ s ∈ ss, s.size ≤ maxLen

/-- A callee that leaves the world as it is, in a region that draws its order. -/
theorem quietSame {P : Program} {f : FuncId} {args : Array Value} {w : World} {n : Nat} {v : Value}
 (h : Calls P f args (w.drewN n) fun e w' => e = .returned v ∧ w.drewN n = w') : Calls P f args (w.drewN n) fun e w'' => e = .returned v ∧ ∃ m, w'' = w.drewN m :=
 h.mono fun _ _ ⟨he, hm⟩ => ⟨he, n, hm.symm⟩

/-- Block b is a row of these cells, none frozen. -/
def Row (w : World) (b : Nat) (t : TypeId) (l : List Value) : Prop := w.heap[b]? = some (.cells l.toArray t (0, 0))

theorem Row.lt {w : World} {b : Nat} {t : TypeId} {l : List Value} (h : Row w b t l) : b < w.heap.size := by
 obtain ⟨hlt, _⟩ := Array.getElem?_eq_some_iff.1 h
 exact hlt
theorem Row.cell {w : World} {b : Nat} {t : TypeId} {l : List Value} (h : Row w b t l) (i : Nat) {v : Value} (hv : l[i]? = some v) : w.cell? ⟨b, i, none⟩ = some v := by
 unfold Row at h
 simp [World.cell?, h, hv]
theorem Row.frozen {w : World} {b : Nat} {t : TypeId} {l : List Value} (h : Row w b t l) (i : Nat) : w.frozen? ⟨b, i, none⟩ = false := by
 unfold Row at h
 simp [World.frozen?, h]
theorem Row.later {w w' : World} {b : Nat} {t : TypeId} {l : List Value} (h : Row w b t l) (hb : Below w.heap.size w w') : Row w' b t l := (hb.block _ h.lt).trans h
theorem Row.new (w : World) (t : TypeId) (l : List Value) : Row (w.alloc (.cells l.toArray t)) w.heap.size t l := Go.Deep.blk_alloc_new _ _
theorem Row.alloc {w : World} {b : Nat} {t : TypeId} {l : List Value} (h : Row w b t l) (o : Obj) : Row (w.alloc o) b t l := (Go.Deep.blk_alloc_lt _ _ _ h.lt).trans h
theorem Row.other {w : World} {b : Nat} {t : TypeId} {l : List Value} (h : Row w b t l) {a : Addr} (ha : b ≠ a.block) (v : Value) : Row (w.setCell a v) b t l := (Go.Deep.blk_setCell_other _ _ _ _ ha).trans h
theorem Row.set {w : World} {b : Nat} {t : TypeId} {l : List Value} (h : Row w b t l) (i : Nat) (v : Value) : Row (w.setCell ⟨b, i, none⟩ v) b t (l.set i v) := by
 unfold Row at h ⊢
 simp [World.setCell, Array.getElem?_modify, h]

/-- What a block of three new cells holds behind a call that leaves older memory alone. -/
theorem box3 {W w1 : World} {x y z : Value} {t : TypeId} (hb : Below (W.alloc (.cells #[x, y, z] t)).heap.size (W.alloc (.cells #[x, y, z] t)) w1) :
 w1.cell? ⟨W.heap.size, 0, none⟩ = some x ∧ w1.cell? ⟨W.heap.size, 1, none⟩ = some y ∧ w1.cell? ⟨W.heap.size, 2, none⟩ = some z ∧ W.heap.size < w1.heap.size := by
 refine ⟨cell_later hb ?_, cell_later hb ?_, cell_later hb ?_, ?_⟩
 · rw [World.cell?_alloc_new]; rfl
 · rw [World.cell?_alloc_new]; rfl
 · rw [World.cell?_alloc_new]; rfl
 · have := hb.size
   simp at this
   omega

/-- What a block of six new cells holds. -/
theorem box6 {W w1 : World} {x0 x1 x2 x3 x4 x5 : Value} {t : TypeId} (hb : Below (W.alloc (.cells #[x0, x1, x2, x3, x4, x5] t)).heap.size (W.alloc (.cells #[x0, x1, x2, x3, x4, x5] t)) w1) :
 w1.cell? ⟨W.heap.size, 0, none⟩ = some x0 ∧ w1.cell? ⟨W.heap.size, 1, none⟩ = some x1 ∧ w1.cell? ⟨W.heap.size, 2, none⟩ = some x2 ∧ w1.cell? ⟨W.heap.size, 3, none⟩ = some x3 ∧
  w1.cell? ⟨W.heap.size, 4, none⟩ = some x4 ∧ w1.cell? ⟨W.heap.size, 5, none⟩ = some x5 ∧ W.heap.size < w1.heap.size := by
 refine ⟨cell_later hb ?_, cell_later hb ?_, cell_later hb ?_, cell_later hb ?_, cell_later hb ?_, cell_later hb ?_, ?_⟩
 · rw [World.cell?_alloc_new]; rfl
 · rw [World.cell?_alloc_new]; rfl
 · rw [World.cell?_alloc_new]; rfl
 · rw [World.cell?_alloc_new]; rfl
 · rw [World.cell?_alloc_new]; rfl
 · rw [World.cell?_alloc_new]; rfl
 · have := hb.size
   simp at this
   omega

/-- What lies below a new block stays, behind a call that leaves older memory alone. -/
theorem below_over {W w1 : World} {o : Obj} (hb : Below (W.alloc o).heap.size (W.alloc o) w1) : Below W.heap.size W w1 :=
 ((Below.refl _ _).alloc (Nat.le_refl _) o).trans (hb.mono (by simp))

end Go.Proofs.YtfmhkicncgccjaaGreat

/- The leaves: what the small functions answer. -/
namespace Go.Proofs.YtfmhkicncgccjaaGreat
open Go.RowKit

theorem l1In_any (n lo hi : Int) (w : World) :
 Calls Tryz.prog 45 #[.int .i64 n, .int .i64 lo, .int .i64 hi] w fun e w' => e = .returned (.bool (inB n lo hi)) ∧ w = w' := by
 unfold inB
 go_enter Tryz.func45, Tryz.ntmps45
 go_wp2
 all_goals go_ret
 all_goals refine ⟨ret_bool ?_, rfl⟩
 all_goals simp [*]
 all_goals omega

theorem within_any (n lo hi : Int) (w : World) :
 Calls Tryz.prog 100 #[.int .i64 n, .int .i64 lo, .int .i64 hi] w fun e w' => e = .returned (.bool (inB n lo hi)) ∧ w = w' := by
 unfold inB
 go_enter Tryz.func100, Tryz.ntmps100
 go_wp2
 all_goals go_ret
 all_goals refine ⟨ret_bool ?_, rfl⟩
 all_goals simp [*]
 all_goals omega

theorem nameRune_any (r : Int) (w : World) :
 Calls Tryz.prog 132 #[.int .i32 r] w fun e w' => e = .returned (.bool (letterB r)) ∧ w = w' := by
 unfold letterB
 go_enter Tryz.func132, Tryz.ntmps132
 go_wp2
 all_goals go_ret
 all_goals refine ⟨ret_bool ?_, rfl⟩
 all_goals (first | rfl | (rw [Bool.eq_iff_iff]; simp; done) | (rw [Bool.eq_iff_iff]; simp; omega))

theorem namesOk1_any (s t : ByteArray) (w : World) :
 Calls Tryz.prog 137 #[.string s, .string t] w fun e w' => e = .returned (.bool (ltS s t)) ∧ w = w' := by
 go_enter Tryz.func137, Tryz.ntmps137
 go_wp2
 go_ret
 exact ⟨rfl, rfl⟩

set_option maxHeartbeats 400000 in
theorem index_any (a : Option Addr) (cap : Nat) (ss : List ByteArray) (s : ByteArray) (w : World) (hm : StrsAt w a ss) (hl : ss.length ≤ maxLen) :
 Calls Tryz.prog 74 #[.slice a ss.length cap, .string s] w fun e w' => (∃ r : Int, e = .returned (.int .i64 r) ∧ decide (0 ≤ r) = hasB ss s) ∧ w = w' := by
 unfold maxLen at hl
 go_enter Tryz.func74, Tryz.ntmps74
 go_wp2
 go_loop [5, 8] (fun _ i => ∃ (k : Nat), k ≤ ss.length ∧ i = .int .i64 k ∧ allTo k (fun i => !(eqS (gs ss i) s)) = true) (fun _ i => ss.length - (intOf i).toNat)
 case atStart => exact ⟨0, Nat.zero_le _, rfl, rfl⟩
 case round =>
  obtain ⟨k, hk, rfl, hall⟩ := hrel
  by_cases hlt : k < ss.length
  · obtain ⟨b, o, ha, hb, hc⟩ := hm.at hlt
    subst ha
    have he := eqS_comm s (gs ss k)
    unfold eqS at he
    cases hq : eqS (gs ss k) s with
    | true =>
     have hq' : (s.toList == (gs ss k).toList) = true := by rw [he]; exact hq
     clear he
     go_wp2
     go_ret
     exact ⟨⟨k, rfl, by rw [show hasB ss s = true from anyTo_true k hlt hq]; simp⟩, rfl⟩
    | false =>
     have hq' : (s.toList == (gs ss k).toList) = false := by rw [he]; exact hq
     clear he
     go_wp2
     go_round
     case rel => exact ⟨k + 1, by omega, by go_num, allTo_succ hall (by simp [hq])⟩
     case measure => simp [intOf]; omega
  · go_wp2
    go_ret
    have : k = ss.length := by omega
    subst this
    exact ⟨⟨-1, rfl, by rw [show hasB ss s = false from anyTo_none hall]; rfl⟩, rfl⟩

theorem contains_any (a : Option Addr) (cap : Nat) (ss : List ByteArray) (s : ByteArray) (w : World) (hm : StrsAt w a ss) (hl : ss.length ≤ maxLen) :
 Calls Tryz.prog 28 #[.slice a ss.length cap, .string s] w fun e w' => e = .returned (.bool (hasB ss s)) ∧ w = w' := by
 go_enter Tryz.func28, Tryz.ntmps28
 go_wp2_with (go_at_call 74; refine (index_any a cap ss s _ hm hl).mono ?_; rintro e w' ⟨⟨r, rfl, hr⟩, rfl⟩)
 go_ret
 exact ⟨ret_bool rfl, rfl⟩

set_option maxHeartbeats 400000 in
theorem l1Has_any (a : Option Addr) (cap : Nat) (ss : List ByteArray) (s : ByteArray) (w : World) (hm : StrsAt w a ss) (hl : ss.length ≤ maxLen) :
 Calls Tryz.prog 29 #[.slice a ss.length cap, .string s] w fun e w' => e = .returned (.bool (hasB ss s)) ∧ w = w' := by
 unfold maxLen at hl
 go_enter Tryz.func29, Tryz.ntmps29
 go_wp2
 go_loop [5] (fun i => ∃ (k : Nat), k ≤ ss.length ∧ i = .int .i64 k ∧ allTo k (fun i => !(eqS (gs ss i) s)) = true) (fun i => ss.length - (intOf i).toNat)
 case atStart => exact ⟨0, Nat.zero_le _, rfl, rfl⟩
 case round =>
  obtain ⟨k, hk, rfl, hall⟩ := hrel
  by_cases hlt : k < ss.length
  · obtain ⟨b, o, ha, hb, hc⟩ := hm.at hlt
    subst ha
    cases hq : eqS (gs ss k) s with
    | true =>
     have hq' : ((gs ss k).toList == s.toList) = true := hq
     go_wp2
     go_ret
     exact ⟨ret_bool (anyTo_true k hlt hq).symm, rfl⟩
    | false =>
     have hq' : ((gs ss k).toList == s.toList) = false := hq
     go_wp2
     go_round
     case rel => exact ⟨k + 1, by omega, by go_num, allTo_succ hall (by simp [hq])⟩
     case measure => simp [intOf]; omega
  · go_wp2
    go_ret
    have : k = ss.length := by omega
    subst this
    exact ⟨ret_bool (anyTo_none hall).symm, rfl⟩

set_option maxHeartbeats 400000 in
theorem l1NameOk_any (s : ByteArray) (w : World) (hs : s.size ≤ maxLen) :
 Calls Tryz.prog 83 #[.string s] w fun e w' => e = .returned (.bool (nameB s)) ∧ w = w' := by
 unfold maxLen at hs
 cases hin : inB s.size 1 8 with
 | false =>
  go_enter Tryz.func83, Tryz.ntmps83
  go_wp2_with (go_at_call 45; refine (l1In_any _ _ _ _).mono ?_; rintro e w' ⟨rfl, rfl⟩; rw [hin])
  go_ret
  exact ⟨ret_bool (nameB_size hin).symm, rfl⟩
 | true =>
  go_enter Tryz.func83, Tryz.ntmps83
  go_wp2_with (go_at_call 45; refine (l1In_any _ _ _ _).mono ?_; rintro e w' ⟨rfl, rfl⟩; rw [hin])
  go_loop [3] (fun i => ∃ (k : Nat), k ≤ s.size ∧ i = .int .i64 k ∧ allTo k (fun i => letterB (byteAt s i)) = true) (fun i => s.size - (intOf i).toNat)
  case atStart => exact ⟨0, Nat.zero_le _, rfl, rfl⟩
  case round =>
   obtain ⟨k, hk, rfl, hall⟩ := hrel
   by_cases hlt : k < s.size
   · have hbt := byteAt_lt hlt
     have hbe : letterB (byteAt s k) = (decide (97 ≤ (s[k].toNat : Int)) && decide ((s[k].toNat : Int) ≤ 122) || decide (48 ≤ (s[k].toNat : Int)) && decide ((s[k].toNat : Int) ≤ 57) || (s[k].toNat : Int) == 45) := by rw [hbt]; rfl
     have HB := hbe
     clear hbe hbt
     have H1 : Hid (letterB (byteAt s k) = (decide (97 ≤ (s[k].toNat : Int)) && decide ((s[k].toNat : Int) ≤ 122) || decide (48 ≤ (s[k].toNat : Int)) && decide ((s[k].toNat : Int) ≤ 57) || (s[k].toNat : Int) == 45)) := HB
     clear HB
     go_wp2
     all_goals first
      | (go_ret; refine ⟨ret_bool (nameB_bad k hlt ?_).symm, rfl⟩; rw [H1.out]; clear H1; simp at *; omega)
      | (go_round
         case rel =>
          refine ⟨k + 1, by omega, by go_num, allTo_succ hall ?_⟩
          show letterB (byteAt s k) = true
          rw [H1.out]; clear H1; simp_all; try omega
         case measure => simp [intOf]; omega)
   · go_wp2
     go_ret
     have : k = s.size := by omega
     subst this
     exact ⟨ret_bool (nameB_good hin hall).symm, rfl⟩

set_option maxHeartbeats 400000 in
theorem nameOk_any (s : ByteArray) (w : World) (_hs : s.size ≤ maxLen) :
 Calls Tryz.prog 92 #[.string s] w fun e w' => e = .returned (.bool (nameB s)) ∧ Below w.heap.size w w' := by
 cases hin : inB s.size 1 8 with
 | false =>
  go_enter Tryz.func92, Tryz.ntmps92
  go_wp2_with (go_at_call 100; refine (within_any _ _ _ _).mono ?_; rintro e w' ⟨rfl, rfl⟩; rw [hin])
  go_ret
  exact ⟨ret_bool (nameB_size hin).symm, Below.refl _ _⟩
 | true =>
  go_enter Tryz.func92, Tryz.ntmps92
  go_wp2_with (go_at_call 100; refine (within_any _ _ _ _).mono ?_; rintro e w' ⟨rfl, rfl⟩; rw [hin])

  go_loopw [4] (fun _ w' => ∃ (k : Nat), k ≤ s.size ∧ w' = w.iter s k ∧ allTo k (fun i => letterB (byteAt s i)) = true) (fun _ w' => s.size - w'.iterPos w.heap.size)
  case atStart => exact ⟨0, Nat.zero_le _, rfl, rfl⟩
  case round =>
   obtain ⟨k, hk, rfl, hall⟩ := hrel
   by_cases hlt : k < s.size
   · have hbt := byteAt_lt hlt
     by_cases hhi : s[k].toNat < 128
     · have hnx : ∀ ty, (Instr.next (.pointer (some ⟨w.heap.size, 0, none⟩)) true ty).run Tryz.prog (w.iter s k) = _ := fun ty => run_next_ascii w s k ty hlt hhi
       cases hq : letterB (byteAt s k) with
       | false =>
        rw [hbt] at hq
        go_wp2_with (go_at_call 132; refine (nameRune_any _ _).mono ?_; rintro e w' ⟨rfl, rfl⟩; rw [hq])
        go_ret
        exact ⟨ret_bool (nameB_bad k hlt (by rw [hbt]; exact hq)).symm, (Below.refl _ _).alloc (Nat.le_refl _) _⟩
       | true =>
        rw [hbt] at hq
        go_wp2_with (go_at_call 132; refine (nameRune_any _ _).mono ?_; rintro e w' ⟨rfl, rfl⟩; rw [hq])
        go_roundw
        case rel => exact ⟨k + 1, by omega, rfl, allTo_succ hall (by rw [hbt]; exact hq)⟩
        case measure => simp; omega
     · have hnx : ∀ ty, (Instr.next (.pointer (some ⟨w.heap.size, 0, none⟩)) true ty).run Tryz.prog (w.iter s k) = _ := fun ty => run_next_any w s k ty hlt
       have hd := (decode_high s k hlt (by omega)).1
       have hq : letterB ((Utf8.decode s k).1 : Int) = false := letterB_high (by omega)
       clear hd
       go_wp2_with (go_at_call 132; refine (nameRune_any _ _).mono ?_; rintro e w' ⟨rfl, rfl⟩; rw [hq])
       go_ret
       exact ⟨ret_bool (nameB_bad k hlt (by rw [hbt]; exact letterB_high (by omega))).symm, (Below.refl _ _).alloc (Nat.le_refl _) _⟩
   · have hnx : ∀ ty, (Instr.next (.pointer (some ⟨w.heap.size, 0, none⟩)) true ty).run Tryz.prog (w.iter s k) = _ := fun ty => run_next_end w s k ty hlt
     go_wp2
     go_ret
     have : k = s.size := by omega
     subst this
     exact ⟨ret_bool (nameB_good hin hall).symm, (Below.refl _ _).alloc (Nat.le_refl _) _⟩
end Go.Proofs.YtfmhkicncgccjaaGreat

/- What the small functions on one use answer. -/
namespace Go.Proofs.YtfmhkicncgccjaaGreat
open Go.RowKit

/-- A use, as a value. -/
def useV (u : Use) : Value := .agg #[.string u.name, .int .i64 u.role, .int .i64 u.amount]

def eqU (u v : Use) : Bool := eqS u.name v.name && u.role == v.role && u.amount == v.amount
def amountB (u : Use) : Bool := if u.role == 3 then u.amount == 0 else inB u.amount 1 1000

set_option maxHeartbeats 400000 in
theorem usesOk1_any (u v : Use) (w : World) :
 Calls Tryz.prog 160 #[useV u, useV v] w fun e w' => e = .returned (.bool (ltS u.name v.name)) ∧ Below w.heap.size w w' := by
 unfold useV
 go_enter Tryz.func160, Tryz.ntmps160
 go_wp2
 go_ret
 exact ⟨rfl, ((Below.refl _ _).alloc (Nat.le_refl _) _).alloc (by simp) _⟩

set_option maxHeartbeats 400000 in
theorem amountOk_any (u : Use) (w : World) :
 Calls Tryz.prog 158 #[useV u] w fun e w' => e = .returned (.bool (amountB u)) ∧ Below w.heap.size w w' := by
 unfold useV
 go_enter Tryz.func158, Tryz.ntmps158
 go_wp2_with (go_at_call 100; refine (within_any _ _ _ _).mono ?_; rintro e w' ⟨rfl, rfl⟩)
 all_goals go_ret
 all_goals refine ⟨ret_bool ?_, (Below.refl _ _).alloc (Nat.le_refl _) _⟩
 all_goals (unfold amountB; simp_all)

/-- Which kind a want is of, by the wrapper's type; none is nil. -/
def roleB (kind role : Int) : Bool := if kind == 1 then inB role 1 3 else role == 3

theorem takes_move (c : Array Value) (role : Int) (w : World) :
 Calls Tryz.prog 194 #[.agg c, .int .i64 role] w fun e w' => e = .returned (.bool (inB role 1 3)) ∧ Below w.heap.size w w' := by
 go_enter Tryz.func194, Tryz.ntmps194
 go_wp2_with (go_at_call 100; refine (within_any _ _ _ _).mono ?_; rintro e w' ⟨rfl, rfl⟩)
 go_ret
 exact ⟨rfl, (Below.refl _ _).alloc (Nat.le_refl _) _⟩

theorem takes_clean (c : Array Value) (role : Int) (w : World) :
 Calls Tryz.prog 193 #[.agg c, .int .i64 role] w fun e w' => e = .returned (.bool (role == 3)) ∧ Below w.heap.size w w' := by
 go_enter Tryz.func193, Tryz.ntmps193
 go_wp2
 go_ret
 exact ⟨rfl, (Below.refl _ _).alloc (Nat.le_refl _) _⟩

theorem takes_permit (c : Array Value) (role : Int) (w : World) :
 Calls Tryz.prog 195 #[.agg c, .int .i64 role] w fun e w' => e = .returned (.bool (role == 3)) ∧ Below w.heap.size w w' := by
 go_enter Tryz.func195, Tryz.ntmps195
 go_wp2
 go_ret
 exact ⟨rfl, (Below.refl _ _).alloc (Nat.le_refl _) _⟩

end Go.Proofs.YtfmhkicncgccjaaGreat

/- What the functions on lists of texts answer. -/
namespace Go.Proofs.YtfmhkicncgccjaaGreat
open Go.RowKit

theorem info9 : (Tryz.prog.info? 9).map (fun i => (i.zero, i.size, i.bytes)) = some (some (.string .empty), 1, 16) := by kernel_rfl

end Go.Proofs.YtfmhkicncgccjaaGreat

/- What the functions on lists of uses answer that copy, count and compare; lists of texts compared. -/
namespace Go.Proofs.YtfmhkicncgccjaaGreat
open Go.RowKit Go.Sort

theorem infoUse : (Tryz.prog.info? 101).map (fun i => (i.zero, i.size, i.bytes)) = some (some (.agg #[.string .empty, .int .i64 0, .int .i64 0]), 3, 32) := by kernel_rfl

def eqSS (xs ys : List ByteArray) : Bool := decide (xs.length = ys.length) && allTo xs.length (fun i => eqS (gs xs i) (gs ys i))
def eqUU (xs ys : List Use) : Bool := decide (xs.length = ys.length) && allTo xs.length (fun i => eqU (gu xs i) (gu ys i))

end Go.Proofs.YtfmhkicncgccjaaGreat

