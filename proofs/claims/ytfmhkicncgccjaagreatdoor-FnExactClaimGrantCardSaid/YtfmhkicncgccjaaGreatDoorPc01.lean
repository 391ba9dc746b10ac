/- Joined: Plain, Mem, Leaf, Uses, Lists, ListsB. -/
import Derived.WalkKit
import Derived.Test.YtfmhkicncgccjaaGreatDoorProg
import Derived.WalkSpells
import Derived.WalkLawsBesides
import Derived.BigQuiet
import Derived.Lib.QuietBelow
import Derived.Deep.OwnRows
/- Plain facts on lists, bounded tests and names; nothing of the program. -/
namespace Go.Proofs.YtfmhkicncgccjaaGreatDoor
open Go.RowKit

def allTo : Nat → (Nat → Bool) → Bool
  | 0, _ => true
  | n + 1, p => allTo n p && p n

theorem allTo_iff {n : Nat} {p : Nat → Bool} : allTo n p = true ↔ ∀ i, i < n → p i = true := by
  induction n with
  | zero => simp [allTo]
  | succ n ih =>
    simp only [allTo, Bool.and_eq_true, ih]
    constructor
    · rintro ⟨h, hn⟩ i hi
      by_cases e : i = n
      · subst e; exact hn
      · exact h i (by omega)
    · exact fun h => ⟨fun i hi => h i (by omega), h n (by omega)⟩

theorem allTo_false {n : Nat} {p : Nat → Bool} (k : Nat) (hk : k < n) (h : p k = false) : allTo n p = false := by
  cases e : allTo n p with
  | false => rfl
  | true => rw [allTo_iff.1 e k hk] at h; exact absurd h (by decide)

theorem allTo_succ {n : Nat} {p : Nat → Bool} (h : allTo n p = true) (hn : p n = true) : allTo (n + 1) p = true := by simp [allTo, h, hn]

def anyTo (n : Nat) (p : Nat → Bool) : Bool := !allTo n (fun i => !p i)

theorem anyTo_iff {n : Nat} {p : Nat → Bool} : anyTo n p = true ↔ ∃ i, i < n ∧ p i = true := by
  unfold anyTo
  cases e : allTo n (fun i => !p i) with
  | true =>
    have := allTo_iff.1 e
    simp
    intro i hi
    simpa using this i hi
  | false =>
    simp
    apply Classical.byContradiction
    intro hn
    have : allTo n (fun i => !p i) = true := allTo_iff.2 fun i hi => by
      cases h : p i with
      | false => rfl
      | true => exact absurd ⟨i, hi, h⟩ hn
    rw [this] at e
    cases e

theorem anyTo_true {n : Nat} {p : Nat → Bool} (k : Nat) (hk : k < n) (h : p k = true) : anyTo n p = true := anyTo_iff.2 ⟨k, hk, h⟩
theorem anyTo_none {n : Nat} {p : Nat → Bool} (h : allTo n (fun i => !p i) = true) : anyTo n p = false := by unfold anyTo; rw [h]; rfl

theorem bool_eq_of_iff {a b : Bool} (h : a = true ↔ b = true) : a = b := by
  cases a <;> cases b <;> simp_all

/-- A text of a list by its place. -/
def gs (ss : List ByteArray) (k : Nat) : ByteArray := ss.getD k .empty

theorem gs_lt {ss : List ByteArray} {k : Nat} (h : k < ss.length) : gs ss k = ss[k] := by simp [gs, h]
theorem gs_mem {ss : List ByteArray} {k : Nat} (h : k < ss.length) : gs ss k ∈ ss := by rw [gs_lt h]; exact List.getElem_mem _


/-- A letter of a name. -/
def letterB (c : Int) : Bool := decide (97 ≤ c) && decide (c ≤ 122) || decide (48 ≤ c) && decide (c ≤ 57) || c == 45

def byteAt (s : ByteArray) (k : Nat) : Int := ((s.data[k]?.getD 0).toNat : Int)

theorem byteAt_lt {s : ByteArray} {k : Nat} (h : k < s.size) : byteAt s k = (s[k].toNat : Int) := by
  have h' : k < s.data.size := h
  unfold byteAt
  rw [Array.getElem?_eq_getElem h']
  rfl

def inB (n lo hi : Int) : Bool := decide (lo ≤ n) && decide (n ≤ hi)

/-- A name. -/
def nameB (s : ByteArray) : Bool := inB s.size 1 8 && allTo s.size (fun k => letterB (byteAt s k))

theorem nameB_size {s : ByteArray} (h : inB s.size 1 8 = false) : nameB s = false := by unfold nameB; rw [h]; rfl
theorem nameB_bad {s : ByteArray} (k : Nat) (hk : k < s.size) (h : letterB (byteAt s k) = false) : nameB s = false := by
  unfold nameB; rw [allTo_false k hk h, Bool.and_false]
theorem nameB_good {s : ByteArray} (h : inB s.size 1 8 = true) (ha : allTo s.size (fun k => letterB (byteAt s k)) = true) : nameB s = true := by
  unfold nameB; rw [h, ha]; rfl

theorem letterB_high {c : Int} (h : 128 ≤ c) : letterB c = false := by
  unfold letterB
  simp
  omega

theorem ret_bool {a b : Bool} (h : a = b) : Ending.returned (.bool a) = .returned (.bool b) := by rw [h]

/-- Two texts are the same, as Go asks. -/
def eqS (s t : ByteArray) : Bool := s.toList == t.toList
theorem eqS_comm (s t : ByteArray) : eqS s t = eqS t s := by unfold eqS; rw [Bool.eq_iff_iff, beq_iff_eq, beq_iff_eq]; exact ⟨Eq.symm, Eq.symm⟩

/-- A text is ahead of another one, as Go asks. -/
def ltS (s t : ByteArray) : Bool := Op.bytesLess s.toList t.toList

def hasB (ss : List ByteArray) (s : ByteArray) : Bool := anyTo ss.length (fun i => eqS (gs ss i) s)

def shareB (xs ys : List ByteArray) : Bool := anyTo xs.length (fun i => hasB ys (gs xs i))

/-- A use. -/
structure Use where
  name : ByteArray
  role : Int
  amount : Int

def useNil : Use := ⟨.empty, 0, 0⟩

def gu (us : List Use) (k : Nat) : Use := us.getD k useNil

theorem gu_lt {us : List Use} {k : Nat} (h : k < us.length) : gu us k = us[k] := by simp [gu, h]
theorem gu_mem {us : List Use} {k : Nat} (h : k < us.length) : gu us k ∈ us := by rw [gu_lt h]; exact List.getElem_mem _

/-- A want. -/
structure Want where
  number : Int
  kind : Int
  stuffs : List ByteArray
  uses : List Use
  opens : List ByteArray
  shuts : List ByteArray

end Go.Proofs.YtfmhkicncgccjaaGreatDoor

/- What a slice of texts and a slice of uses hold in memory, read by index, and that it stays so while older memory is left alone. -/
namespace Go.Proofs.YtfmhkicncgccjaaGreatDoor
open Go.RowKit

/-- The slice at a holds at place k, one after another from there, the cells 'f k 0, f k 1, ..' (size many), for each k below n. -/
def RowAt (w : World) (a : Option Addr) (n size : Nat) (f : Nat → Nat → Value) : Prop :=
  ∀ k, k < n → ∃ b o, a = some ⟨b, o, none⟩ ∧ b < w.heap.size ∧ ∀ j, j < size → w.cell? ⟨b, o + k * size + j, none⟩ = some (f k j)

theorem RowAt.later {w w' : World} {a : Option Addr} {n size : Nat} {f : Nat → Nat → Value} (h : RowAt w a n size f) (hb : Below w.heap.size w w') : RowAt w' a n size f := by
  intro k hk
  obtain ⟨b, o, ha, hl, hc⟩ := h k hk
  exact ⟨b, o, ha, Nat.lt_of_lt_of_le hl hb.size, fun j hj => by rw [hb.cell (p := ⟨b, o + k * size + j, none⟩) hl]; exact hc j hj⟩

theorem RowAt.setOther {w : World} {a : Option Addr} {n size : Nat} {f : Nat → Nat → Value} (h : RowAt w a n size f) {p : Addr} (hne : ∀ b o, a = some ⟨b, o, none⟩ → b ≠ p.block) (v : Value) : RowAt (w.setCell p v) a n size f := by
  intro k hk
  obtain ⟨b, o, ha, hl, hc⟩ := h k hk
  refine ⟨b, o, ha, by simpa [World.setCell] using hl, fun j hj => ?_⟩
  rw [← hc j hj]
  exact World.cell?_of_block (w := w) (Go.Deep.blk_setCell_other _ _ _ _ (hne b o ha))

/-- A slice of texts. -/
def StrsAt (w : World) (a : Option Addr) (ss : List ByteArray) : Prop := RowAt w a ss.length 1 (fun k _ => .string (gs ss k))

theorem StrsAt.later {w w' : World} {a : Option Addr} {ss : List ByteArray} (h : StrsAt w a ss) (hb : Below w.heap.size w w') : StrsAt w' a ss := RowAt.later h hb

theorem StrsAt.at {w : World} {a : Option Addr} {ss : List ByteArray} (h : StrsAt w a ss) {k : Nat} (hk : k < ss.length) :
    ∃ b o, a = some ⟨b, o, none⟩ ∧ b < w.heap.size ∧ w.cell? ⟨b, o + k, none⟩ = some (.string (gs ss k)) := by
  obtain ⟨b, o, ha, hl, hc⟩ := h k hk
  have := hc 0 (by omega)
  simp only [Nat.mul_one, Nat.add_zero] at this
  exact ⟨b, o, ha, hl, this⟩

/-- The three cells of a use. -/
def useCell (u : Use) : Nat → Value
  | 0 => .string u.name
  | 1 => .int .i64 u.role
  | _ => .int .i64 u.amount

/-- A slice of uses. -/
def UsesAt (w : World) (a : Option Addr) (us : List Use) : Prop := RowAt w a us.length 3 (fun k => useCell (gu us k))

theorem UsesAt.later {w w' : World} {a : Option Addr} {us : List Use} (h : UsesAt w a us) (hb : Below w.heap.size w w') : UsesAt w' a us := RowAt.later h hb

theorem UsesAt.at {w : World} {a : Option Addr} {us : List Use} (h : UsesAt w a us) {k : Nat} (hk : k < us.length) :
    ∃ b o, a = some ⟨b, o, none⟩ ∧ b < w.heap.size ∧ w.cell? ⟨b, o + k * 3, none⟩ = some (.string (gu us k).name) ∧ w.cell? ⟨b, o + k * 3 + 1, none⟩ = some (.int .i64 (gu us k).role) ∧
      w.cell? ⟨b, o + k * 3 + 1 + 1, none⟩ = some (.int .i64 (gu us k).amount) := by
  obtain ⟨b, o, ha, hl, hc⟩ := h k hk
  exact ⟨b, o, ha, hl, hc 0 (by omega), hc 1 (by omega), hc 2 (by omega)⟩

/-- Every text of a list is one that can be. -/
def Fit (ss : List ByteArray) : Prop := ss.length ≤ maxLen ∧ ∀ s ∈ ss, s.size ≤ maxLen


/-- A callee that leaves the world as it is, in a region that draws its order. -/
theorem quietSame {P : Program} {f : FuncId} {args : Array Value} {w : World} {n : Nat} {v : Value}
    (h : Calls P f args (w.drewN n) fun e w' => e = .returned v ∧ w.drewN n = w') : Calls P f args (w.drewN n) fun e w'' => e = .returned v ∧ ∃ m, w'' = w.drewN m :=
  h.mono fun _ _ ⟨he, hm⟩ => ⟨he, n, hm.symm⟩


/-- Block b is a row of these cells, none frozen. -/
def Row (w : World) (b : Nat) (t : TypeId) (l : List Value) : Prop := w.heap[b]? = some (.cells l.toArray t (0, 0))

theorem Row.lt {w : World} {b : Nat} {t : TypeId} {l : List Value} (h : Row w b t l) : b < w.heap.size := by
  obtain ⟨hlt, _⟩ := Array.getElem?_eq_some_iff.1 h
  exact hlt
theorem Row.cell {w : World} {b : Nat} {t : TypeId} {l : List Value} (h : Row w b t l) (i : Nat) {v : Value} (hv : l[i]? = some v) : w.cell? ⟨b, i, none⟩ = some v := by
  unfold Row at h
  simp [World.cell?, h, hv]
theorem Row.frozen {w : World} {b : Nat} {t : TypeId} {l : List Value} (h : Row w b t l) (i : Nat) : w.frozen? ⟨b, i, none⟩ = false := by
  unfold Row at h
  simp [World.frozen?, h]
theorem Row.later {w w' : World} {b : Nat} {t : TypeId} {l : List Value} (h : Row w b t l) (hb : Below w.heap.size w w') : Row w' b t l := (hb.block _ h.lt).trans h
theorem Row.new (w : World) (t : TypeId) (l : List Value) : Row (w.alloc (.cells l.toArray t)) w.heap.size t l := Go.Deep.blk_alloc_new _ _
theorem Row.alloc {w : World} {b : Nat} {t : TypeId} {l : List Value} (h : Row w b t l) (o : Obj) : Row (w.alloc o) b t l := (Go.Deep.blk_alloc_lt _ _ _ h.lt).trans h
theorem Row.other {w : World} {b : Nat} {t : TypeId} {l : List Value} (h : Row w b t l) {a : Addr} (ha : b ≠ a.block) (v : Value) : Row (w.setCell a v) b t l := (Go.Deep.blk_setCell_other _ _ _ _ ha).trans h
theorem Row.set {w : World} {b : Nat} {t : TypeId} {l : List Value} (h : Row w b t l) (i : Nat) (v : Value) : Row (w.setCell ⟨b, i, none⟩ v) b t (l.set i v) := by
  unfold Row at h ⊢
  simp [World.setCell, Array.getElem?_modify, h]

/-- What a block of three new cells holds behind a call that leaves older memory alone. -/
theorem box3 {W w1 : World} {x y z : Value} {t : TypeId} (hb : Below (W.alloc (.cells #[x, y, z] t)).heap.size (W.alloc (.cells #[x, y, z] t)) w1) :
    w1.cell? ⟨W.heap.size, 0, none⟩ = some x ∧ w1.cell? ⟨W.heap.size, 1, none⟩ = some y ∧ w1.cell? ⟨W.heap.size, 2, none⟩ = some z ∧ W.heap.size < w1.heap.size := by
  refine ⟨cell_later hb ?_, cell_later hb ?_, cell_later hb ?_, ?_⟩
  · rw [World.cell?_alloc_new]; rfl
  · rw [World.cell?_alloc_new]; rfl
  · rw [World.cell?_alloc_new]; rfl
  · have := hb.size
    simp at this
    omega

/-- What a block of six new cells holds. -/
theorem box6 {W w1 : World} {x0 x1 x2 x3 x4 x5 : Value} {t : TypeId} (hb : Below (W.alloc (.cells #[x0, x1, x2, x3, x4, x5] t)).heap.size (W.alloc (.cells #[x0, x1, x2, x3, x4, x5] t)) w1) :
    w1.cell? ⟨W.heap.size, 0, none⟩ = some x0 ∧ w1.cell? ⟨W.heap.size, 1, none⟩ = some x1 ∧ w1.cell? ⟨W.heap.size, 2, none⟩ = some x2 ∧ w1.cell? ⟨W.heap.size, 3, none⟩ = some x3 ∧
      w1.cell? ⟨W.heap.size, 4, none⟩ = some x4 ∧ w1.cell? ⟨W.heap.size, 5, none⟩ = some x5 ∧ W.heap.size < w1.heap.size := by
  refine ⟨cell_later hb ?_, cell_later hb ?_, cell_later hb ?_, cell_later hb ?_, cell_later hb ?_, cell_later hb ?_, ?_⟩
  · rw [World.cell?_alloc_new]; rfl
  · rw [World.cell?_alloc_new]; rfl
  · rw [World.cell?_alloc_new]; rfl
  · rw [World.cell?_alloc_new]; rfl
  · rw [World.cell?_alloc_new]; rfl
  · rw [World.cell?_alloc_new]; rfl
  · have := hb.size
    simp at this
    omega

/-- What lies below a new block stays, behind a call that leaves older memory alone. -/
theorem below_over {W w1 : World} {o : Obj} (hb : Below (W.alloc o).heap.size (W.alloc o) w1) : Below W.heap.size W w1 :=
  ((Below.refl _ _).alloc (Nat.le_refl _) o).trans (hb.mono (by simp))

end Go.Proofs.YtfmhkicncgccjaaGreatDoor

/- The leaves: what the small functions answer. -/
namespace Go.Proofs.YtfmhkicncgccjaaGreatDoor
open Go.RowKit

theorem l1In_any (n lo hi : Int) (w : World) :
    Calls Tryz.prog 46 #[.int .i64 n, .int .i64 lo, .int .i64 hi] w fun e w' => e = .returned (.bool (inB n lo hi)) ∧ w = w' := by
  unfold inB
  go_enter Tryz.func46, Tryz.ntmps46
  go_wp2
  all_goals go_ret
  all_goals refine ⟨ret_bool ?_, rfl⟩
  all_goals simp [*]
  all_goals omega

theorem within_any (n lo hi : Int) (w : World) :
    Calls Tryz.prog 148 #[.int .i64 n, .int .i64 lo, .int .i64 hi] w fun e w' => e = .returned (.bool (inB n lo hi)) ∧ w = w' := by
  unfold inB
  go_enter Tryz.func148, Tryz.ntmps148
  go_wp2
  all_goals go_ret
  all_goals refine ⟨ret_bool ?_, rfl⟩
  all_goals simp [*]
  all_goals omega

theorem nameRune_any (r : Int) (w : World) :
    Calls Tryz.prog 199 #[.int .i32 r] w fun e w' => e = .returned (.bool (letterB r)) ∧ w = w' := by
  unfold letterB
  go_enter Tryz.func199, Tryz.ntmps199
  go_wp2
  all_goals go_ret
  all_goals refine ⟨ret_bool ?_, rfl⟩
  all_goals (first | rfl | (rw [Bool.eq_iff_iff]; simp; done) | (rw [Bool.eq_iff_iff]; simp; omega))

theorem namesOk1_any (s t : ByteArray) (w : World) :
    Calls Tryz.prog 178 #[.string s, .string t] w fun e w' => e = .returned (.bool (ltS s t)) ∧ w = w' := by
  go_enter Tryz.func178, Tryz.ntmps178
  go_wp2
  go_ret
  exact ⟨rfl, rfl⟩

set_option maxHeartbeats 400000 in
theorem index_any (a : Option Addr) (cap : Nat) (ss : List ByteArray) (s : ByteArray) (w : World) (hm : StrsAt w a ss) (hl : ss.length ≤ maxLen) :
    Calls Tryz.prog 202 #[.slice a ss.length cap, .string s] w fun e w' => (∃ r : Int, e = .returned (.int .i64 r) ∧ decide (0 ≤ r) = hasB ss s) ∧ w = w' := by
  unfold maxLen at hl
  go_enter Tryz.func202, Tryz.ntmps202
  go_wp2
  go_loop [5, 8] (fun _ i => ∃ (k : Nat), k ≤ ss.length ∧ i = .int .i64 k ∧ allTo k (fun i => !(eqS (gs ss i) s)) = true) (fun _ i => ss.length - (intOf i).toNat)
  case atStart => exact ⟨0, Nat.zero_le _, rfl, rfl⟩
  case round =>
    obtain ⟨k, hk, rfl, hall⟩ := hrel
    by_cases hlt : k < ss.length
    · obtain ⟨b, o, ha, hb, hc⟩ := hm.at hlt
      subst ha
      have he := eqS_comm s (gs ss k)
      unfold eqS at he
      cases hq : eqS (gs ss k) s with
      | true =>
        have hq' : (s.toList == (gs ss k).toList) = true := by rw [he]; exact hq
        clear he
        go_wp2
        go_ret
        exact ⟨⟨k, rfl, by rw [show hasB ss s = true from anyTo_true k hlt hq]; simp⟩, rfl⟩
      | false =>
        have hq' : (s.toList == (gs ss k).toList) = false := by rw [he]; exact hq
        clear he
        go_wp2
        go_round
        case rel => exact ⟨k + 1, by omega, by go_num, allTo_succ hall (by simp [hq])⟩
        case measure => simp [intOf]; omega
    · go_wp2
      go_ret
      have : k = ss.length := by omega
      subst this
      exact ⟨⟨-1, rfl, by rw [show hasB ss s = false from anyTo_none hall]; rfl⟩, rfl⟩

theorem contains_any (a : Option Addr) (cap : Nat) (ss : List ByteArray) (s : ByteArray) (w : World) (hm : StrsAt w a ss) (hl : ss.length ≤ maxLen) :
    Calls Tryz.prog 182 #[.slice a ss.length cap, .string s] w fun e w' => e = .returned (.bool (hasB ss s)) ∧ w = w' := by
  go_enter Tryz.func182, Tryz.ntmps182
  go_wp2_with (go_at_call 202; refine (index_any a cap ss s _ hm hl).mono ?_; rintro e w' ⟨⟨r, rfl, hr⟩, rfl⟩)
  go_ret
  exact ⟨ret_bool rfl, rfl⟩

set_option maxHeartbeats 400000 in
theorem l1Has_any (a : Option Addr) (cap : Nat) (ss : List ByteArray) (s : ByteArray) (w : World) (hm : StrsAt w a ss) (hl : ss.length ≤ maxLen) :
    Calls Tryz.prog 69 #[.slice a ss.length cap, .string s] w fun e w' => e = .returned (.bool (hasB ss s)) ∧ w = w' := by
  unfold maxLen at hl
  go_enter Tryz.func69, Tryz.ntmps69
  go_wp2
  go_loop [5] (fun i => ∃ (k : Nat), k ≤ ss.length ∧ i = .int .i64 k ∧ allTo k (fun i => !(eqS (gs ss i) s)) = true) (fun i => ss.length - (intOf i).toNat)
  case atStart => exact ⟨0, Nat.zero_le _, rfl, rfl⟩
  case round =>
    obtain ⟨k, hk, rfl, hall⟩ := hrel
    by_cases hlt : k < ss.length
    · obtain ⟨b, o, ha, hb, hc⟩ := hm.at hlt
      subst ha
      cases hq : eqS (gs ss k) s with
      | true =>
        have hq' : ((gs ss k).toList == s.toList) = true := hq
        go_wp2
        go_ret
        exact ⟨ret_bool (anyTo_true k hlt hq).symm, rfl⟩
      | false =>
        have hq' : ((gs ss k).toList == s.toList) = false := hq
        go_wp2
        go_round
        case rel => exact ⟨k + 1, by omega, by go_num, allTo_succ hall (by simp [hq])⟩
        case measure => simp [intOf]; omega
    · go_wp2
      go_ret
      have : k = ss.length := by omega
      subst this
      exact ⟨ret_bool (anyTo_none hall).symm, rfl⟩

set_option maxHeartbeats 400000 in
theorem l1NameOk_any (s : ByteArray) (w : World) (hs : s.size ≤ maxLen) :
    Calls Tryz.prog 98 #[.string s] w fun e w' => e = .returned (.bool (nameB s)) ∧ w = w' := by
  unfold maxLen at hs
  cases hin : inB s.size 1 8 with
  | false =>
    go_enter Tryz.func98, Tryz.ntmps98
    go_wp2_with (go_at_call 46; refine (l1In_any _ _ _ _).mono ?_; rintro e w' ⟨rfl, rfl⟩; rw [hin])
    go_ret
    exact ⟨ret_bool (nameB_size hin).symm, rfl⟩
  | true =>
    go_enter Tryz.func98, Tryz.ntmps98
    go_wp2_with (go_at_call 46; refine (l1In_any _ _ _ _).mono ?_; rintro e w' ⟨rfl, rfl⟩; rw [hin])
    go_loop [3] (fun i => ∃ (k : Nat), k ≤ s.size ∧ i = .int .i64 k ∧ allTo k (fun i => letterB (byteAt s i)) = true) (fun i => s.size - (intOf i).toNat)
    case atStart => exact ⟨0, Nat.zero_le _, rfl, rfl⟩
    case round =>
      obtain ⟨k, hk, rfl, hall⟩ := hrel
      by_cases hlt : k < s.size
      · have hbt := byteAt_lt hlt
        have hbe : letterB (byteAt s k) = (decide (97 ≤ (s[k].toNat : Int)) && decide ((s[k].toNat : Int) ≤ 122) || decide (48 ≤ (s[k].toNat : Int)) && decide ((s[k].toNat : Int) ≤ 57) || (s[k].toNat : Int) == 45) := by rw [hbt]; rfl
        have HB := hbe
        clear hbe hbt
        have H1 : Hid (letterB (byteAt s k) = (decide (97 ≤ (s[k].toNat : Int)) && decide ((s[k].toNat : Int) ≤ 122) || decide (48 ≤ (s[k].toNat : Int)) && decide ((s[k].toNat : Int) ≤ 57) || (s[k].toNat : Int) == 45)) := HB
        clear HB
        go_wp2
        all_goals first
          | (go_ret; refine ⟨ret_bool (nameB_bad k hlt ?_).symm, rfl⟩; rw [H1.out]; clear H1; simp at *; omega)
          | (go_round
             case rel =>
               refine ⟨k + 1, by omega, by go_num, allTo_succ hall ?_⟩
               show letterB (byteAt s k) = true
               rw [H1.out]; clear H1; simp_all; try omega
             case measure => simp [intOf]; omega)
      · go_wp2
        go_ret
        have : k = s.size := by omega
        subst this
        exact ⟨ret_bool (nameB_good hin hall).symm, rfl⟩

set_option maxHeartbeats 400000 in
theorem nameOk_any (s : ByteArray) (w : World) (_hs : s.size ≤ maxLen) :
    Calls Tryz.prog 167 #[.string s] w fun e w' => e = .returned (.bool (nameB s)) ∧ Below w.heap.size w w' := by
  cases hin : inB s.size 1 8 with
  | false =>
    go_enter Tryz.func167, Tryz.ntmps167
    go_wp2_with (go_at_call 148; refine (within_any _ _ _ _).mono ?_; rintro e w' ⟨rfl, rfl⟩; rw [hin])
    go_ret
    exact ⟨ret_bool (nameB_size hin).symm, Below.refl _ _⟩
  | true =>
    go_enter Tryz.func167, Tryz.ntmps167
    go_wp2_with (go_at_call 148; refine (within_any _ _ _ _).mono ?_; rintro e w' ⟨rfl, rfl⟩; rw [hin])

    go_loopw [4] (fun _ w' => ∃ (k : Nat), k ≤ s.size ∧ w' = w.iter s k ∧ allTo k (fun i => letterB (byteAt s i)) = true) (fun _ w' => s.size - w'.iterPos w.heap.size)
    case atStart => exact ⟨0, Nat.zero_le _, rfl, rfl⟩
    case round =>
      obtain ⟨k, hk, rfl, hall⟩ := hrel
      by_cases hlt : k < s.size
      · have hbt := byteAt_lt hlt
        by_cases hhi : s[k].toNat < 128
        · have hnx : ∀ ty, (Instr.next (.pointer (some ⟨w.heap.size, 0, none⟩)) true ty).run Tryz.prog (w.iter s k) = _ := fun ty => run_next_ascii w s k ty hlt hhi
          cases hq : letterB (byteAt s k) with
          | false =>
            rw [hbt] at hq
            go_wp2_with (go_at_call 199; refine (nameRune_any _ _).mono ?_; rintro e w' ⟨rfl, rfl⟩; rw [hq])
            go_ret
            exact ⟨ret_bool (nameB_bad k hlt (by rw [hbt]; exact hq)).symm, (Below.refl _ _).alloc (Nat.le_refl _) _⟩
          | true =>
            rw [hbt] at hq
            go_wp2_with (go_at_call 199; refine (nameRune_any _ _).mono ?_; rintro e w' ⟨rfl, rfl⟩; rw [hq])
            go_roundw
            case rel => exact ⟨k + 1, by omega, rfl, allTo_succ hall (by rw [hbt]; exact hq)⟩
            case measure => simp; omega
        · have hnx : ∀ ty, (Instr.next (.pointer (some ⟨w.heap.size, 0, none⟩)) true ty).run Tryz.prog (w.iter s k) = _ := fun ty => run_next_any w s k ty hlt
          have hd := (decode_high s k hlt (by omega)).1
          have hq : letterB ((Utf8.decode s k).1 : Int) = false := letterB_high (by omega)
          clear hd
          go_wp2_with (go_at_call 199; refine (nameRune_any _ _).mono ?_; rintro e w' ⟨rfl, rfl⟩; rw [hq])
          go_ret
          exact ⟨ret_bool (nameB_bad k hlt (by rw [hbt]; exact letterB_high (by omega))).symm, (Below.refl _ _).alloc (Nat.le_refl _) _⟩
      · have hnx : ∀ ty, (Instr.next (.pointer (some ⟨w.heap.size, 0, none⟩)) true ty).run Tryz.prog (w.iter s k) = _ := fun ty => run_next_end w s k ty hlt
        go_wp2
        go_ret
        have : k = s.size := by omega
        subst this
        exact ⟨ret_bool (nameB_good hin hall).symm, (Below.refl _ _).alloc (Nat.le_refl _) _⟩
end Go.Proofs.YtfmhkicncgccjaaGreatDoor

/- What the small functions on one use answer. -/
namespace Go.Proofs.YtfmhkicncgccjaaGreatDoor
open Go.RowKit

/-- A use, as a value. -/
def useV (u : Use) : Value := .agg #[.string u.name, .int .i64 u.role, .int .i64 u.amount]

def eqU (u v : Use) : Bool := eqS u.name v.name && u.role == v.role && u.amount == v.amount
def amountB (u : Use) : Bool := if u.role == 3 then u.amount == 0 else inB u.amount 1 1000

set_option maxHeartbeats 400000 in
theorem szClaimUse_any (u : Use) (left : Int) (w : World) (hs : u.name.size ≤ maxLen) (h0 : -1 ≤ left) (h1 : left ≤ 1048576) :
    Calls Tryz.prog 62 #[useV u, .int .i64 left] w fun e w' => (∃ r : Int, e = .returned (.int .i64 r) ∧ -1 ≤ r ∧ r ≤ left) ∧ Below w.heap.size w w' := by
  unfold maxLen at hs
  unfold useV
  go_enter Tryz.func62, Tryz.ntmps62
  go_wp2
  all_goals go_ret
  all_goals exact ⟨⟨_, rfl, by omega, by omega⟩, (Below.refl _ _).alloc (Nat.le_refl _) _⟩

set_option maxHeartbeats 400000 in
theorem toClaimUse_any (u : Use) (w : World) :
    Calls Tryz.prog 77 #[useV u] w fun e w' => e = .returned (useV u) ∧ Below w.heap.size w w' := by
  unfold useV
  go_enter Tryz.func77, Tryz.ntmps77
  go_wp2
  exact bodyPost_ret (v := .agg #[.string u.name, .int .i64 u.role, .int .i64 u.amount]) (by simp [results, Tryz.results77, go_sem]) rfl ⟨rfl, (((Below.refl _ _).alloc (Nat.le_refl _) _).alloc (by simp) _).alloc (by simp; omega) _⟩

set_option maxHeartbeats 400000 in
theorem eqClaimUse_any (u v : Use) (w : World) :
    Calls Tryz.prog 85 #[useV u, useV v] w fun e w' => e = .returned (.bool (eqU u v)) ∧ Below w.heap.size w w' := by
  unfold useV
  go_enter Tryz.func85, Tryz.ntmps85
  go_wp2
  all_goals go_ret
  all_goals refine ⟨ret_bool ?_, ((Below.refl _ _).alloc (Nat.le_refl _) _).alloc (by simp) _⟩
  all_goals (unfold eqU eqS; simp_all)

set_option maxHeartbeats 400000 in
theorem usesOk1_any (u v : Use) (w : World) :
    Calls Tryz.prog 181 #[useV u, useV v] w fun e w' => e = .returned (.bool (ltS u.name v.name)) ∧ Below w.heap.size w w' := by
  unfold useV
  go_enter Tryz.func181, Tryz.ntmps181
  go_wp2
  go_ret
  exact ⟨rfl, ((Below.refl _ _).alloc (Nat.le_refl _) _).alloc (by simp) _⟩

set_option maxHeartbeats 400000 in
theorem amountOk_any (u : Use) (w : World) :
    Calls Tryz.prog 179 #[useV u] w fun e w' => e = .returned (.bool (amountB u)) ∧ Below w.heap.size w w' := by
  unfold useV
  go_enter Tryz.func179, Tryz.ntmps179
  go_wp2_with (go_at_call 148; refine (within_any _ _ _ _).mono ?_; rintro e w' ⟨rfl, rfl⟩)
  all_goals go_ret
  all_goals refine ⟨ret_bool ?_, (Below.refl _ _).alloc (Nat.le_refl _) _⟩
  all_goals (unfold amountB; simp_all)


/-- Which kind a want is of, by the wrapper's type; none is nil. -/
def roleB (kind role : Int) : Bool := if kind == 1 then inB role 1 3 else role == 3

theorem takes_move (c : Array Value) (role : Int) (w : World) :
    Calls Tryz.prog 246 #[.agg c, .int .i64 role] w fun e w' => e = .returned (.bool (inB role 1 3)) ∧ Below w.heap.size w w' := by
  go_enter Tryz.func246, Tryz.ntmps246
  go_wp2_with (go_at_call 148; refine (within_any _ _ _ _).mono ?_; rintro e w' ⟨rfl, rfl⟩)
  go_ret
  exact ⟨rfl, (Below.refl _ _).alloc (Nat.le_refl _) _⟩

theorem takes_clean (c : Array Value) (role : Int) (w : World) :
    Calls Tryz.prog 247 #[.agg c, .int .i64 role] w fun e w' => e = .returned (.bool (role == 3)) ∧ Below w.heap.size w w' := by
  go_enter Tryz.func247, Tryz.ntmps247
  go_wp2
  go_ret
  exact ⟨rfl, (Below.refl _ _).alloc (Nat.le_refl _) _⟩

theorem takes_permit (c : Array Value) (role : Int) (w : World) :
    Calls Tryz.prog 248 #[.agg c, .int .i64 role] w fun e w' => e = .returned (.bool (role == 3)) ∧ Below w.heap.size w w' := by
  go_enter Tryz.func248, Tryz.ntmps248
  go_wp2
  go_ret
  exact ⟨rfl, (Below.refl _ _).alloc (Nat.le_refl _) _⟩

end Go.Proofs.YtfmhkicncgccjaaGreatDoor

/- What the functions on lists of texts answer. -/
namespace Go.Proofs.YtfmhkicncgccjaaGreatDoor
open Go.RowKit

set_option maxHeartbeats 400000 in
theorem szStringS_any (a : Option Addr) (cap : Nat) (ss : List ByteArray) (left : Int) (w : World) (hm : StrsAt w a ss) (hf : Fit ss) (h0 : -1 ≤ left) (h1 : left ≤ 1048576) :
    Calls Tryz.prog 20 #[.slice a ss.length cap, .int .i64 left] w fun e w' => (∃ r : Int, e = .returned (.int .i64 r) ∧ -1 ≤ r ∧ r ≤ left ∧ (0 ≤ r → ss.length ≤ 1048576)) ∧ w = w' := by
  obtain ⟨hl, hs⟩ := hf
  unfold maxLen at hl hs
  by_cases hneg : left - ss.length < 0
  · go_enter Tryz.func20, Tryz.ntmps20
    go_wp2
    go_ret
    exact ⟨⟨-1, rfl, by omega, by omega, by omega⟩, rfl⟩
  · go_enter Tryz.func20, Tryz.ntmps20
    go_wp2
    go_loop [1, 5] (fun t i => ∃ (k : Nat) (l : Int), k ≤ ss.length ∧ i = .int .i64 k ∧ t = .int .i64 l ∧ 0 ≤ l ∧ l ≤ left) (fun _ i => ss.length - (intOf i).toNat)
    case atStart => exact ⟨0, _, Nat.zero_le _, rfl, rfl, by omega, by omega⟩
    case round =>
      obtain ⟨k, l, hk, rfl, rfl, hl0, hl1⟩ := hrel
      by_cases hlt : k < ss.length
      · obtain ⟨b, o, ha, hb, hc⟩ := hm.at hlt
        have hsz : (gs ss k).size ≤ 2 ^ 63 - 1 := hs _ (gs_mem hlt)
        clear hs
        generalize gs ss k = s at hc hsz
        subst ha
        go_wp2
        · go_ret
          exact ⟨⟨-1, rfl, by omega, by omega, by omega⟩, rfl⟩
        · go_round
          case rel => exact ⟨k + 1, l - s.size, by omega, by go_num, rfl, by omega, by omega⟩
          case measure => simp [intOf]; omega
      · go_wp2
        go_ret
        exact ⟨⟨l, rfl, by omega, by omega, by omega⟩, rfl⟩

theorem info9 : (Tryz.prog.info? 9).map (fun i => (i.zero, i.size, i.bytes)) = some (some (.string .empty), 1, 16) := by kernel_rfl

set_option maxHeartbeats 400000 in
theorem toStringS_any (a : Option Addr) (cap : Nat) (ss : List ByteArray) (w : World) (hm : StrsAt w a ss) (hroom : ss.length ≤ 1048576) :
    Calls Tryz.prog 35 #[.slice a ss.length cap] w fun e w' => (∃ b, e = .returned (.slice (some ⟨b, 0, none⟩) ss.length ss.length) ∧ w.heap.size ≤ b ∧ StrsAt w' (some ⟨b, 0, none⟩) ss) ∧ Below w.heap.size w w' := by
  have hmk := run_make_row' (P := Tryz.prog) 24 9 (.string .empty) 16 Tryz.underlying24 info9 rfl .i64 .i64 ss.length (by omega) (by omega)
  go_enter Tryz.func35, Tryz.ntmps35
  go_wp2
  go_loopw [4] (fun i wr => ∃ (k : Nat), k ≤ ss.length ∧ i = .int .i64 k ∧ wr.rowIs w.heap.size 9 ss.length (fun j => if j < k then .string (gs ss j) else .string .empty) ∧ Below w.heap.size w wr) (fun i _ => ss.length - (intOf i).toNat)
  case atStart =>
    exact ⟨0, Nat.zero_le _, rfl, (World.rowIs_made w _ _ _).congr (fun i _ => by simp), (Below.refl _ _).alloc (Nat.le_refl _) _⟩
  case round =>
    obtain ⟨k, hk, rfl, hrow, hbel⟩ := hrel
    clear hmk
    by_cases hlt : k < ss.length
    · obtain ⟨b, o, ha, hb, hc⟩ := (hm.later hbel).at hlt
      have hc1 := hrow.cell hlt
      have hfz := hrow.frozen k
      subst ha
      go_wp2
      go_roundw
      case rel =>
        refine ⟨k + 1, by omega, by go_num, (hrow.set k _).congr (fun i _ => ?_), hbel.setCell (Nat.le_refl _) _⟩
        by_cases e : i = k
        · subst e; simp
        · simp only [e, if_false]
          by_cases h : i < k
          · rw [if_pos h, if_pos (by omega)]
          · rw [if_neg h, if_neg (by omega)]
      case measure => simp [intOf]; omega
    · have : k = ss.length := by omega
      subst this
      go_wp2
      go_ret
      refine ⟨⟨w.heap.size, rfl, Nat.le_refl _, fun k hk => ⟨w.heap.size, 0, rfl, hrow.lt, fun j hj => ?_⟩⟩, hbel⟩
      have hj0 : j = 0 := by omega
      subst hj0
      have := hrow.cell hk
      rw [if_pos hk] at this
      simpa using this

end Go.Proofs.YtfmhkicncgccjaaGreatDoor

/- What the functions on lists of uses answer that copy, count and compare; lists of texts compared. -/
namespace Go.Proofs.YtfmhkicncgccjaaGreatDoor
open Go.RowKit Go.Sort

set_option maxHeartbeats 400000 in
theorem szClaimUseS_any (a : Option Addr) (cap : Nat) (us : List Use) (left : Int) (w : World) (hm : UsesAt w a us) (hl : us.length ≤ maxLen) (hs : ∀ u ∈ us, u.name.size ≤ maxLen) (h0 : -1 ≤ left) (h1 : left ≤ 1048576) :
    Calls Tryz.prog 22 #[.slice a us.length cap, .int .i64 left] w fun e w' => (∃ r : Int, e = .returned (.int .i64 r) ∧ -1 ≤ r ∧ r ≤ left ∧ (0 ≤ r → us.length ≤ 1048576)) ∧ Below w.heap.size w w' := by
  unfold maxLen at hl
  by_cases hneg : left - us.length < 0
  · go_enter Tryz.func22, Tryz.ntmps22
    go_wp2
    go_ret
    exact ⟨⟨-1, rfl, by omega, by omega, by omega⟩, Below.refl _ _⟩
  · go_enter Tryz.func22, Tryz.ntmps22
    go_wp2
    go_loopw [1, 5] (fun t i wr => ∃ (k : Nat) (l : Int), k ≤ us.length ∧ i = .int .i64 k ∧ t = .int .i64 l ∧ 0 ≤ l ∧ l ≤ left ∧ Below w.heap.size w wr) (fun _ i _ => us.length - (intOf i).toNat)
    case atStart => exact ⟨0, _, Nat.zero_le _, rfl, rfl, by omega, by omega, Below.refl _ _⟩
    case round =>
      obtain ⟨k, l, hk, rfl, rfl, hl0, hl1, hbel⟩ := hrel
      by_cases hlt : k < us.length
      · obtain ⟨b, o, ha, hb, hc0, hc1, hc2⟩ := (hm.later hbel).at hlt
        have hsz : (gu us k).name.size ≤ maxLen := hs _ (gu_mem hlt)
        clear hs
        generalize gu us k = u at hc0 hc1 hc2 hsz
        subst ha
        go_wp2_with (go_at_call 62; refine (szClaimUse_any u l _ hsz (by omega) (by omega)).mono ?_; rintro e w1 ⟨⟨r, rfl, hr0, hr1⟩, hb1⟩)
        · go_ret
          exact ⟨⟨-1, rfl, by omega, by omega, by omega⟩, hbel.trans (hb1.mono hbel.size)⟩
        · go_roundw
          case rel => exact ⟨k + 1, r, by omega, by go_num, rfl, by omega, by omega, hbel.trans (hb1.mono hbel.size)⟩
          case measure => simp [intOf]; omega
      · go_wp2
        go_ret
        exact ⟨⟨l, rfl, by omega, by omega, by omega⟩, hbel⟩

theorem infoUse : (Tryz.prog.info? 101).map (fun i => (i.zero, i.size, i.bytes)) = some (some (.agg #[.string .empty, .int .i64 0, .int .i64 0]), 3, 32) := by kernel_rfl

theorem make_uses (n : Nat) (hn : n ≤ 1048576) (w : World) :
    (Instr.makeSlice 40 (.int .i64 (n : Int)) (.int .i64 (n : Int))).run Tryz.prog w = .ok (.slice (some ⟨w.heap.size, 0, none⟩) n n) (w.alloc (.cells (madeCells #[.string .empty, .int .i64 0, .int .i64 0] (n * 3)) 101)) := by
  obtain ⟨i, hi, hz, hs, hb⟩ := info_parts infoUse
  have hr := run_make (P := Tryz.prog) w 40 101 i _ Tryz.underlying40 hi hz .i64 .i64 n n (by omega) (Int.le_refl _) (by rw [hb]; omega) (by omega)
  simp only [Int.toNat_natCast, hs] at hr
  exact hr

theorem rowIs_made3 (w : World) (x y z : Value) (n : Nat) (t : TypeId) : (w.alloc (.cells (madeCells #[x, y, z] (n * 3)) t)).rowIs w.heap.size t (n * 3) (fun i => (#[x, y, z] : Array Value)[i % 3]!) :=
  ⟨madeCells #[x, y, z] (n * 3), Go.Deep.blk_alloc_new _ _, size_madeCells _ _, fun i hi => by simp [madeCells, hi]⟩

set_option maxHeartbeats 400000 in
theorem toClaimUseS_any (a : Option Addr) (cap : Nat) (us : List Use) (w : World) (hm : UsesAt w a us) (hroom : us.length ≤ 1048576) :
    Calls Tryz.prog 37 #[.slice a us.length cap] w fun e w' => (∃ b, e = .returned (.slice (some ⟨b, 0, none⟩) us.length us.length) ∧ w.heap.size ≤ b ∧ UsesAt w' (some ⟨b, 0, none⟩) us) ∧ Below w.heap.size w w' := by
  have hmk := make_uses us.length hroom
  go_enter Tryz.func37, Tryz.ntmps37
  go_wp2
  go_loopw [4] (fun i wr => ∃ (k : Nat) (g : Nat → Value), k ≤ us.length ∧ i = .int .i64 k ∧ wr.rowIs w.heap.size 101 (us.length * 3) g ∧ (∀ j, j < k → ∀ c, c < 3 → g (j * 3 + c) = useCell (gu us j) c) ∧ Below w.heap.size w wr) (fun i _ => us.length - (intOf i).toNat)
  case atStart =>
    exact ⟨0, _, Nat.zero_le _, rfl, rowIs_made3 w _ _ _ _ _, fun j hj => absurd hj (Nat.not_lt_zero _), (Below.refl _ _).alloc (Nat.le_refl _) _⟩
  case round =>
    obtain ⟨k, g, hk, rfl, hrow, hg, hbel⟩ := hrel
    clear hmk
    by_cases hlt : k < us.length
    · obtain ⟨b, o, ha, hb, hc0, hc1, hc2⟩ := (hm.later hbel).at hlt
      subst ha
      go_wp2_with fail
      refine (toClaimUse_any (gu us k) _).mono ?_
      rintro e w1 ⟨rfl, hb1⟩
      have hrow1 : w1.rowIs w.heap.size 101 (us.length * 3) g := hrow.of_block (hb1.block _ hrow.lt)
      have hq0 := hrow1.cell (i := k * 3) (by omega)
      have hq1 := hrow1.cell (i := k * 3 + 1) (by omega)
      have hq2 := hrow1.cell (i := k * 3 + 1 + 1) (by omega)
      have hf0 := hrow1.frozen (k * 3)
      have hf1 := hrow1.frozen (k * 3 + 1)
      have hf2 := hrow1.frozen (k * 3 + 1 + 1)
      unfold useV
      clear hc0 hc1 hc2
      go_wp2
      have hbel1 : Below w.heap.size w w1 := hbel.trans (hb1.mono hbel.size)
      go_roundw
      case rel =>
        refine ⟨k + 1, _, by omega, by go_num, ((hrow1.set (k * 3) _).set (k * 3 + 1) _).set (k * 3 + 2) _, ?_, ((hbel1.setCell (Nat.le_refl _) _).setCell (Nat.le_refl _) _).setCell (Nat.le_refl _) _⟩
        intro j hj c hc
        by_cases e : j = k
        · subst e
          match c, hc with
          | 0, _ => simp [useCell]
          | 1, _ => simp [useCell]
          | 2, _ => simp [useCell]
        · have := hg j (by omega) c hc
          rw [← this]
          rw [if_neg (by omega), if_neg (by omega), if_neg (by omega)]
      case measure => simp [intOf]; omega
    · have : k = us.length := by omega
      subst this
      go_wp2
      go_ret
      refine ⟨⟨w.heap.size, rfl, Nat.le_refl _, fun k hk => ⟨w.heap.size, 0, rfl, hrow.lt, fun j hj => ?_⟩⟩, hbel⟩
      have := hrow.cell (i := k * 3 + j) (by omega)
      rw [hg k hk j hj] at this
      simpa using this

def eqSS (xs ys : List ByteArray) : Bool := decide (xs.length = ys.length) && allTo xs.length (fun i => eqS (gs xs i) (gs ys i))
def eqUU (xs ys : List Use) : Bool := decide (xs.length = ys.length) && allTo xs.length (fun i => eqU (gu xs i) (gu ys i))

set_option maxHeartbeats 400000 in
theorem eqStringS_any (a b : Option Addr) (ca cb : Nat) (xs ys : List ByteArray) (w : World) (hx : StrsAt w a xs) (hy : StrsAt w b ys) (lx : xs.length ≤ maxLen) :
    Calls Tryz.prog 42 #[.slice a xs.length ca, .slice b ys.length cb] w fun e w' => e = .returned (.bool (eqSS xs ys)) ∧ Below w.heap.size w w' := by
  unfold maxLen at lx
  by_cases hlen : xs.length = ys.length
  · have hl1 : ((xs.length : Int) != (ys.length : Int)) = false := by simp [hlen]
    go_enter Tryz.func42, Tryz.ntmps42
    go_wp2
    go_loopw [5] (fun i wr => ∃ (k : Nat), k ≤ xs.length ∧ i = .int .i64 k ∧ allTo k (fun i => eqS (gs xs i) (gs ys i)) = true ∧ Below w.heap.size w wr) (fun i _ => xs.length - (intOf i).toNat)
    case atStart => exact ⟨0, Nat.zero_le _, rfl, rfl, Below.refl _ _⟩
    case round =>
      obtain ⟨k, hk, rfl, hall, hbel⟩ := hrel
      clear hl1
      by_cases hlt : k < xs.length
      · obtain ⟨b1, o1, ha1, hb1, hc1⟩ := (hx.later hbel).at hlt
        obtain ⟨b2, o2, ha2, hb2, hc2⟩ := (hy.later hbel).at (k := k) (by omega)
        subst ha1 ha2
        have hlt2 : (k : Int) < ys.length := by omega
        have HL : Hid (xs.length = ys.length) := hlen
        clear hlen
        cases hq : eqS (gs xs k) (gs ys k) with
        | true =>
          have hq' : ((gs xs k).toList == (gs ys k).toList) = true := hq
          go_wp2
          go_quiet (fail)
          go_wp2
          go_roundw
          case rel => exact ⟨k + 1, by omega, by go_num, allTo_succ hall hq, below_drewN hbel _⟩
          case measure => simp [intOf]; omega
        | false =>
          have hq' : ((gs xs k).toList == (gs ys k).toList) = false := hq
          go_wp2
          go_quiet (fail)
          go_wp2
          go_ret
          exact ⟨ret_bool (by unfold eqSS; rw [allTo_false k hlt hq, Bool.and_false]), below_drewN hbel _⟩
      · go_wp2
        go_ret
        have : k = xs.length := by omega
        subst this
        exact ⟨ret_bool (by unfold eqSS; rw [hall]; simp [hlen]), hbel⟩
  · have hl1 : ((xs.length : Int) != (ys.length : Int)) = true := by simp; omega
    go_enter Tryz.func42, Tryz.ntmps42
    go_wp2
    go_ret
    exact ⟨ret_bool (by unfold eqSS; simp [hlen]), Below.refl _ _⟩


set_option maxHeartbeats 400000 in
theorem eqClaimUseS_any (a b : Option Addr) (ca cb : Nat) (xs ys : List Use) (w : World) (hx : UsesAt w a xs) (hy : UsesAt w b ys) (lx : xs.length ≤ maxLen) :
    Calls Tryz.prog 44 #[.slice a xs.length ca, .slice b ys.length cb] w fun e w' => e = .returned (.bool (eqUU xs ys)) ∧ Below w.heap.size w w' := by
  unfold maxLen at lx
  by_cases hlen : xs.length = ys.length
  · have hl1 : ((xs.length : Int) != (ys.length : Int)) = false := by simp [hlen]
    go_enter Tryz.func44, Tryz.ntmps44
    go_wp2
    go_loopw [5] (fun i wr => ∃ (k : Nat), k ≤ xs.length ∧ i = .int .i64 k ∧ allTo k (fun i => eqU (gu xs i) (gu ys i)) = true ∧ Below w.heap.size w wr) (fun i _ => xs.length - (intOf i).toNat)
    case atStart => exact ⟨0, Nat.zero_le _, rfl, rfl, Below.refl _ _⟩
    case round wr =>
      obtain ⟨k, hk, rfl, hall, hbel⟩ := hrel
      clear hl1
      by_cases hlt : k < xs.length
      · obtain ⟨b1, o1, ha1, hb1, hc10, hc11, hc12⟩ := (hx.later hbel).at hlt
        obtain ⟨b2, o2, ha2, hb2, hc20, hc21, hc22⟩ := (hy.later hbel).at (k := k) (by omega)
        subst ha1 ha2
        have hlt2 : (k : Int) < ys.length := by omega
        have HL : Hid (xs.length = ys.length) := hlen
        clear hlen
        have r10 := cell_regrown hc10
        have r11 := cell_regrown hc11
        have r12 := cell_regrown hc12
        have r20 := cell_regrown hc20
        have r21 := cell_regrown hc21
        have r22 := cell_regrown hc22
        have hcall := fun d os => Calls.regrown_of (w := wr) (eqClaimUse_any (gu xs k) (gu ys k) (grow (redrawn wr d) os))
        unfold useV at hcall
        go_wp2
        refine wp_region_quiet_below (by kernel_rfl) (by kernel_rfl) ?_
        repeat (quiet_step (exact hcall _ _))
        refine wpQuiet_nil ?_
        intro w1 hw'
        obtain ⟨⟨dq, osq⟩, hw''⟩ := hw'
        have hbel1 : Below w.heap.size w w1 := hbel.trans ((hw'' ▸ below_regrown wr dq osq).mono hbel.size)
        clear hw''
        clear hcall r10 r11 r12 r20 r21 r22
        cases hq : eqU (gu xs k) (gu ys k) with
        | true =>
          go_wp2
          go_roundw
          case rel => exact ⟨k + 1, by omega, by go_num, allTo_succ hall hq, hbel1⟩
          case measure => simp [intOf]; omega
        | false =>
          go_wp2
          go_ret
          exact ⟨ret_bool (by unfold eqUU; rw [allTo_false k hlt hq, Bool.and_false]), hbel1⟩
      · go_wp2
        go_ret
        have : k = xs.length := by omega
        subst this
        exact ⟨ret_bool (by unfold eqUU; rw [hall]; simp [hlen]), hbel⟩
  · have hl1 : ((xs.length : Int) != (ys.length : Int)) = true := by simp; omega
    go_enter Tryz.func44, Tryz.ntmps44
    go_wp2
    go_ret
    exact ⟨ret_bool (by unfold eqUU; simp [hlen]), Below.refl _ _⟩

end Go.Proofs.YtfmhkicncgccjaaGreatDoor
