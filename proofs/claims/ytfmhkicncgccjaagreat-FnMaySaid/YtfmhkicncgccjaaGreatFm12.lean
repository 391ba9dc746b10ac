/- Joined: DrB, DrC. -/
import Derived.Test.YtfmhkicncgccjaaGreatFm09
import Derived.Test.YtfmhkicncgccjaaGreatFm11
import Derived.Test.YtfmhkicncgccjaaGreatFm10
/- Books and wants whose memory lies from a block on, whatever their lists' places in their blocks; what the reader's of and l5Some answer. -/
namespace Go.Proofs.YtfmhkicncgccjaaGreat
open Go.RowKit Go.Sort
set_option linter.unusedSimpArgs false
set_option linter.unusedVariables false

theorem RowAt.only {D : Nat → Prop} {w w' : World} {a : Option Addr} {n size : Nat} {f : Nat → Nat → Value} (h : RowAt w a n size f) (ho : Only D w w') (hD : ∀ q, InSlot a n q → ¬ D q) : RowAt w' a n size f := by
 intro k hk
 obtain ⟨b, o, ha, hb, hc⟩ := h k hk
 refine ⟨b, o, ha, Nat.lt_of_lt_of_le hb ho.size, fun j hj => ?_⟩
 have e := ho.block b hb (hD b ⟨by omega, o, ha⟩)
 have := hc j hj
 unfold World.cell? at this ⊢
 rw [e]
 exact this
/-- A list's block, if there is anything in it, is one from B on. -/
def From (B : Nat) (a : Option Addr) (n : Nat) : Prop := ∀ q, InSlot a n q → B ≤ q
theorem From.zero (B : Nat) (a : Option Addr) : From B a 0 := fun q hq => absurd rfl hq.1
theorem From.mono {B B' : Nat} {a : Option Addr} {n : Nat} (h : From B a n) (hb : B' ≤ B) : From B' a n := fun q hq => Nat.le_trans hb (h q hq)
theorem RowAt.low {D : Nat → Prop} {B : Nat} {w w' : World} {a : Option Addr} {n size : Nat} {f : Nat → Nat → Value} (h : RowAt w a n size f) (ho : Only D w w') (hf : From B a n) (hD : ∀ q, D q → q < B) : RowAt w' a n size f :=
 h.only ho (fun q hq hd => by have := hf q hq; have := hD q hd; omega)
/-- A want whose lists lie from B on. -/
structure DrW (B : Nat) (w : World) (y : Want) (a2 a3 a4 a5 : Option Addr) : Prop where
 in_ : WantIn w y a2 a3 a4 a5
 f2 : From B a2 y.stuffs.length
 f3 : From B a3 y.uses.length
 f4 : From B a4 y.opens.length
 f5 : From B a5 y.shuts.length
theorem DrW.low {D : Nat → Prop} {B : Nat} {w w' : World} {y : Want} {a2 a3 a4 a5 : Option Addr} (h : DrW B w y a2 a3 a4 a5) (ho : Only D w w') (hD : ∀ q, D q → q < B) : DrW B w' y a2 a3 a4 a5 :=
 ⟨⟨RowAt.low h.in_.stuffs ho h.f2 hD, RowAt.low h.in_.uses ho h.f3 hD, RowAt.low h.in_.opens ho h.f4 hD, RowAt.low h.in_.shuts ho h.f5 hD⟩, h.f2, h.f3, h.f4, h.f5⟩
theorem DrW.later {B : Nat} {w w' : World} {y : Want} {a2 a3 a4 a5 : Option Addr} (h : DrW B w y a2 a3 a4 a5) (hb : Below w.heap.size w w') : DrW B w' y a2 a3 a4 a5 := ⟨h.in_.later hb, h.f2, h.f3, h.f4, h.f5⟩
/-- A book whose lists lie from B on. -/
structure DrB (B : Nat) (w : World) (x : Book) (af ap av aq : Option Addr) : Prop where
 foes : FoesAt w af x.foes
 f0 : From B af x.foes.length
 spots : ∃ (m : Nat → Option Addr) (c : Nat → Nat), RowAt w ap x.spots.length 5 (fun k => spotCell (gp x.spots k) (m k) (c k)) ∧ (∀ k, k < x.spots.length → StrsAt w (m k) (gp x.spots k).may ∧ From B (m k) (gp x.spots k).may.length) ∧ ∀ k, k < x.spots.length → (gp x.spots k).may.length ≤ c k
 f1 : From B ap x.spots.length
 valves : StrsAt w av x.valves
 f2 : From B av x.valves.length
 parts : ∃ (A : Nat → Nat → Option Addr) (C : Nat → Nat → Nat), RowAt w aq x.parts.length 7 (fun k => partCell (gq x.parts k) (A k) (C k)) ∧ ∀ k, k < x.parts.length → DrW B w (gq x.parts k).want (A k 2) (A k 3) (A k 4) (A k 5)
 f3 : From B aq x.parts.length
theorem DrB.in_ {B : Nat} {w : World} {x : Book} {af ap av aq : Option Addr} (h : DrB B w x af ap av aq) : BookIn w x af ap av aq := by
 obtain ⟨h0, -, ⟨m, c, s1, s2, s3⟩, -, h2, -, ⟨A, C, p1, p2⟩, -⟩ := h
 exact ⟨h0, ⟨m, c, s1, fun k hk => (s2 k hk).1, s3⟩, h2, ⟨A, C, p1, fun k hk => (p2 k hk).in_⟩⟩
theorem DrB.low {D : Nat → Prop} {B : Nat} {w w' : World} {x : Book} {af ap av aq : Option Addr} (h : DrB B w x af ap av aq) (ho : Only D w w') (hD : ∀ q, D q → q < B) : DrB B w' x af ap av aq := by
 obtain ⟨h0, e0, ⟨m, c, s1, s2, s3⟩, e1, h2, e2, ⟨A, C, p1, p2⟩, e3⟩ := h
 exact ⟨RowAt.low h0 ho e0 hD, e0, ⟨m, c, RowAt.low s1 ho e1 hD, fun k hk => ⟨RowAt.low (s2 k hk).1 ho (s2 k hk).2 hD, (s2 k hk).2⟩, s3⟩, e1, RowAt.low h2 ho e2 hD, e2, ⟨A, C, RowAt.low p1 ho e3 hD, fun k hk => (p2 k hk).low ho hD⟩, e3⟩
theorem DrB.later {B : Nat} {w w' : World} {x : Book} {af ap av aq : Option Addr} (h : DrB B w x af ap av aq) (hb : Below w.heap.size w w') : DrB B w' x af ap av aq := by
 obtain ⟨h0, e0, ⟨m, c, s1, s2, s3⟩, e1, h2, e2, ⟨A, C, p1, p2⟩, e3⟩ := h
 exact ⟨h0.later hb, e0, ⟨m, c, s1.later hb, fun k hk => ⟨(s2 k hk).1.later hb, (s2 k hk).2⟩, s3⟩, e1, h2.later hb, e2, ⟨A, C, p1.later hb, fun k hk => (p2 k hk).later hb⟩, e3⟩
theorem DrW.mono {B B' : Nat} {w : World} {y : Want} {a2 a3 a4 a5 : Option Addr} (h : DrW B w y a2 a3 a4 a5) (hb : B' ≤ B) : DrW B' w y a2 a3 a4 a5 := ⟨h.in_, h.f2.mono hb, h.f3.mono hb, h.f4.mono hb, h.f5.mono hb⟩
theorem DrB.mono {B B' : Nat} {w : World} {x : Book} {af ap av aq : Option Addr} (h : DrB B w x af ap av aq) (hb : B' ≤ B) : DrB B' w x af ap av aq := by
 obtain ⟨h0, e0, ⟨m, c, s1, s2, s3⟩, e1, h2, e2, ⟨A, C, p1, p2⟩, e3⟩ := h
 exact ⟨h0, e0.mono hb, ⟨m, c, s1, fun k hk => ⟨(s2 k hk).1, (s2 k hk).2.mono hb⟩, s3⟩, e1.mono hb, h2, e2.mono hb, ⟨A, C, p1, fun k hk => (p2 k hk).mono hb⟩, e3.mono hb⟩
theorem DrB.of_own {B : Nat} {w : World} {x : Book} {af ap av aq : Option Addr} {A1 : Nat → Option Addr} {C1 : Nat → Nat} {A2 : Nat → Nat → Option Addr} {C2 : Nat → Nat → Nat} (h : OwnBook w x af ap av aq A1 C1 A2 C2) (lo : ∀ q, InBk x af ap av aq A1 A2 q → B ≤ q) : DrB B w x af ap av aq :=
 ⟨h.foes.rowAt, fun q hq => lo q (Or.inl hq), ⟨A1, C1, h.spots.row.rowAt, fun k hk => ⟨(h.spots.may k hk).rowAt, fun q hq => lo q (Or.inr (Or.inl (Or.inr ⟨k, hk, hq⟩)))⟩, h.spots.cap⟩, fun q hq => lo q (Or.inr (Or.inl (Or.inl hq))),
  h.valves.rowAt, fun q hq => lo q (Or.inr (Or.inr (Or.inl hq))), ⟨fun k f => A2 k (f - 2), fun k f => C2 k (f - 2), h.parts.row.rowAt, fun k hk =>
   ⟨⟨(h.parts.list k hk 0 (by omega)).rowAt, (h.parts.list k hk 1 (by omega)).rowAt, (h.parts.list k hk 2 (by omega)).rowAt, (h.parts.list k hk 3 (by omega)).rowAt⟩,
    fun q hq => lo q (Or.inr (Or.inr (Or.inr (Or.inr ⟨k, hk, 0, by omega, hq⟩)))), fun q hq => lo q (Or.inr (Or.inr (Or.inr (Or.inr ⟨k, hk, 1, by omega, hq⟩)))), fun q hq => lo q (Or.inr (Or.inr (Or.inr (Or.inr ⟨k, hk, 2, by omega, hq⟩)))), fun q hq => lo q (Or.inr (Or.inr (Or.inr (Or.inr ⟨k, hk, 3, by omega, hq⟩))))⟩⟩,
  fun q hq => lo q (Or.inr (Or.inr (Or.inr (Or.inl hq))))⟩

set_option maxRecDepth 100000 in
set_option maxHeartbeats 2000000 in
theorem of_any (W0 : World) (Rb : Nat) (a : Option Addr) (n cap : Nat) (f : Nat → Nat) (w : World) (p : Int) (h : Rd W0 Rb a n cap f w p) (h0 : 0 ≤ p) (h1 : p ≤ 1000000000) (al : Option Addr) (cl : Nat) (ss : List ByteArray) (hs : StrsAt w al ss) (hl : From (Rb + 1) al ss.length) (hpos : 0 < ss.length) (hsm : ss.length ≤ 100) :
 Calls Tryz.prog 73 #[.pointer (some ⟨Rb, 0, none⟩), .slice al ss.length cl] w fun e w' => (∃ i, i < ss.length ∧ e = .returned (.string (gs ss i))) ∧ Rd W0 Rb a n cap f w' (p + 1) ∧ Only (fun q => q = Rb) w w' := by
 go_enter Tryz.func73, Tryz.ntmps73
 go_wp2_with fail
 refine (pick_any W0 Rb a n cap f w p _ h h0 h1).mono ?_
 rintro e w1 ⟨⟨v, rfl, hv0, hv1⟩, hr1, on1⟩
 obtain ⟨i, rfl⟩ : ∃ i : Nat, v = i := ⟨v.toNat, by omega⟩
 have hi : i < ss.length := by omega
 have hs1 := RowAt.low hs on1 hl (fun q hq => by have : q = Rb := hq; omega)
 obtain ⟨b, o, ha, hb, hc⟩ := hs1 i hi
 subst ha
 have hc0 := hc 0 (by omega)
 simp only [Nat.mul_one, Nat.add_zero] at hc0
 have hi2 : (i : Int) < ss.length := by omega
 clear hc hs1 hs hv0 hv1
 go_wp2
 go_ret
 exact ⟨⟨i, hi, rfl⟩, hr1, on1⟩

end Go.Proofs.YtfmhkicncgccjaaGreat

/- What l5Some answers: some names of a list, in a list of its own. -/
namespace Go.Proofs.YtfmhkicncgccjaaGreat
open Go.RowKit Go.Sort
set_option linter.unusedSimpArgs false
set_option linter.unusedVariables false

/-- One change behind another; what the second changes is new, or changed by the first as well. -/
theorem Only.next {D D' : Nat → Prop} {w w1 w2 : World} (h : Only D w w1) (h' : Only D' w1 w2) (hd : ∀ q, D' q → q < w.heap.size → D q) : Only D w w2 :=
 ⟨h'.os.trans h.os, h'.tape.trans h.tape, h'.output.trans h.output, Nat.le_trans h.size h'.size, fun k hk hn => (h'.block k (Nat.lt_of_lt_of_le hk h.size) (fun hd' => hn (hd k hd' hk))).trans (h.block k hk hn)⟩
theorem cell_only {D : Nat → Prop} {w w' : World} (ho : Only D w w') {b i : Nat} {v : Value} (h : w.cell? ⟨b, i, none⟩ = some v) (hb : b < w.heap.size) (hd : ¬ D b) : w'.cell? ⟨b, i, none⟩ = some v := by
 have e := ho.block b hb hd
 unfold World.cell? at h ⊢
 rw [e]
 exact h
/-- The reader is kept by what leaves it alone. -/
theorem Rd.only {W0 : World} {Rb : Nat} {a : Option Addr} {n cap : Nat} {f : Nat → Nat} {w w' : World} {p : Int} {D : Nat → Prop} (h : Rd W0 Rb a n cap f w p) (ho : Only D w w') (hd : ∀ q, D q → Rb < q) : Rd W0 Rb a n cap f w' p :=
 ⟨h.row.only ho (fun hq => by have := hd _ hq; omega), h.below.trans (ho.below (fun q hq => by have := hd q hq; omega) (by have := h.row.lt; omega)), h.size, h.bytes, h.small, h.len⟩
theorem Rd.later {W0 : World} {Rb : Nat} {a : Option Addr} {n cap : Nat} {f : Nat → Nat} {w w' : World} {p : Int} (h : Rd W0 Rb a n cap f w p) (hb : Below w.heap.size w w') : Rd W0 Rb a n cap f w' p :=
 h.only (D := fun _ => False) (Only.of hb) (fun _ h => h.elim)
/-- A list of names of its own, its room known, in a block from B on. -/
structure OwS (B : Nat) (w : World) (l : List ByteArray) (a : Option Addr) (c : Nat) : Prop where
 own : OwnL w 9 1 a l.length (strF l)
 cap : CapOf w 9 1 a l.length c
 lo : ∀ y, InAddr a y → B ≤ y
theorem OwS.only {B : Nat} {D : Nat → Prop} {w w' : World} {l : List ByteArray} {a : Option Addr} {c : Nat} (h : OwS B w l a c) (ho : Only D w w') (hd : ∀ y, InAddr a y → ¬ D y) : OwS B w' l a c :=
 ⟨h.own.only ho (fun y hy => hd y hy.2), h.cap.only ho hd, h.lo⟩
theorem OwS.later {B : Nat} {w w' : World} {l : List ByteArray} {a : Option Addr} {c : Nat} (h : OwS B w l a c) (hb : Below w.heap.size w w') : OwS B w' l a c := ⟨h.own.later hb, h.cap.later hb, h.lo⟩
theorem OwS.mono {B B' : Nat} {w : World} {l : List ByteArray} {a : Option Addr} {c : Nat} (h : OwS B w l a c) (hb : B' ≤ B) : OwS B' w l a c := ⟨h.own, h.cap, fun y hy => Nat.le_trans hb (h.lo y hy)⟩
theorem strF_snoc (l : List ByteArray) (s : ByteArray) (k j : Nat) : k < l.length + 1 → behindF l.length (strF l) (fun _ _ => .string s) k j = strF (l ++ [s]) k j := by
 intro hk
 unfold behindF strF gs
 by_cases h : k < l.length
 · simp [h, List.getElem?_append]
 · have : k = l.length := by omega
   subst this
   simp
theorem OwS.snoc {B : Nat} {w w' : World} {l : List ByteArray} {a a' : Option Addr} {c c' : Nat} {s : ByteArray} (h : OwS B w l a c) (hB : B ≤ w.heap.size) (ap : Appended 9 1 w w' a l.length 1 (strF l) (fun _ _ => .string s) a' c') : OwS B w' (l ++ [s]) a' c' := by
 have e : (l ++ [s]).length = l.length + 1 := by simp
 refine ⟨?_, ?_, fun y hy => ?_⟩
 · rw [e]; exact ap.own.congr (fun k hk j hj => strF_snoc l s k j hk)
 · rw [e]; exact ap.cap
 · rcases ap.at_ y hy with h' | h'
   · exact h.lo y h'
   · omega

/-- Some names of a list, in a list of its own; the reader has gone on. -/
def SomeOf (W0 : World) (Rb : Nat) (a : Option Addr) (n cap : Nat) (f : Nat → Nat) (w : World) (p : Int) (ss : List ByteArray) (e : Ending) (w' : World) : Prop :=
 ∃ (l : List ByteArray) (a' : Option Addr) (c' : Nat) (p' : Int), e = .returned (.slice a' l.length c') ∧ OwS w.heap.size w' l a' c' ∧ l.length ≤ ss.length ∧ (∀ s ∈ l, s ∈ ss) ∧ p ≤ p' ∧ p' ≤ p + ss.length ∧ Rd W0 Rb a n cap f w' p'

set_option maxRecDepth 100000 in
set_option maxHeartbeats 4000000 in
theorem l5Some_any (W0 : World) (Rb : Nat) (a : Option Addr) (n cap : Nat) (f : Nat → Nat) (w : World) (p most : Int) (h : Rd W0 Rb a n cap f w p) (h0 : 0 ≤ p) (h1 : p ≤ 900000000) (al : Option Addr) (cl : Nat) (ss : List ByteArray) (hs : StrsAt w al ss) (hl : From (Rb + 1) al ss.length) (hsm : ss.length ≤ 1000) :
 Calls Tryz.prog 167 #[.pointer (some ⟨Rb, 0, none⟩), .slice al ss.length cl, .int .i64 most] w fun e w' => SomeOf W0 Rb a n cap f w p ss e w' ∧ Only (fun q => q = Rb) w w' := by
 have hRb : Rb < w.heap.size := h.row.lt
 have START : Hid (OwS w.heap.size (w.alloc (.cells #[] 9)) [] (some ⟨w.heap.size, 0, none⟩) 0 ∧ Rd W0 Rb a n cap f (w.alloc (.cells #[] 9)) p ∧ Only (fun q => q = Rb) w (w.alloc (.cells #[] 9))) := by
  have b : Below w.heap.size w (w.alloc (.cells #[] 9)) := (Below.refl _ _).alloc (Nat.le_refl _) _
  refine ⟨⟨ownL_zero _ _ _ _ _, capOf_row (Row.new _ _ _), fun y hy => ?_⟩, h.later b, Only.of b⟩
  obtain ⟨o, hy⟩ := hy
  cases hy
  exact Nat.le_refl _
 go_enter Tryz.func167, Tryz.ntmps167
 go_wp2_with fail
 go_loopw [7, 8] (fun o i wr => ∃ (k : Nat) (l : List ByteArray) (a' : Option Addr) (c' : Nat) (p' : Int) (X : World), X = wr ∧ k ≤ ss.length ∧ i = .int .i64 k ∧ o = .slice a' l.length c' ∧ OwS w.heap.size X l a' c' ∧ l.length ≤ k ∧ (∀ s ∈ l, s ∈ ss) ∧ p ≤ p' ∧ p' ≤ p + k ∧ Rd W0 Rb a n cap f X p' ∧ Only (fun q => q = Rb) w X) (fun _ i _ => ss.length - (intOf i).toNat)
 case atStart => exact ⟨0, [], _, _, p, _, rfl, Nat.zero_le _, rfl, rfl, START.out.1, Nat.le_refl _, (fun s hs => by cases hs), Int.le_refl _, by omega, START.out.2.1, START.out.2.2⟩
 case round =>
  obtain ⟨k, l, a', c', p', X, rfl, hk, rfl, rfl, own, hlk, hmem, hp1, hp2, hrd, hon⟩ := hrel
  clear START
  by_cases hgo : k < ss.length ∧ (l.length : Int) < most
  · obtain ⟨hlt, hmost⟩ := hgo
    have hlt2 : (k : Int) < ss.length := by omega
    go_wp2_with fail
    refine (pick_any W0 Rb a n cap f X p' 4 hrd (by omega) (by omega)).mono ?_
    rintro e X1 ⟨⟨v, rfl, hv0, hv1⟩, hr1, on1⟩
    have hon1 := hon.trans on1
    have own1 := own.only on1 (fun y hy e => by have := own.lo y hy; omega)
    have hs1 := RowAt.low hs hon1 hl (fun q hq => by have : q = Rb := hq; omega)
    clear own hrd on1 hon hv1
    by_cases hv : v = 0
    · subst hv
      obtain ⟨b, o, ha, hb, hc⟩ := hs1 k hlt
      have hc0 := hc 0 (by omega)
      simp only [Nat.mul_one, Nat.add_zero] at hc0
      have HS : Hid (al = some ⟨b, o, none⟩) := ha
      clear hc hs1 hs
      subst ha
      obtain ⟨W5, hW5⟩ : ∃ W, W = X1.alloc (.cells #[.string (gs ss k)] 9) := ⟨_, rfl⟩
      have bW5 : Below X1.heap.size X1 W5 := by rw [hW5]; exact (Below.refl _ _).alloc (Nat.le_refl _) _
      have own5 := own1.later bW5
      have hE : RowAt W5 (some ⟨X1.heap.size, 0, none⟩) 1 1 (fun _ _ => .string (gs ss k)) := rowAt_one (t := 9) (by rw [hW5]; exact Row.new _ _ _)
      have r5 := hr1.later bW5
      have on5 := hon1.trans (Only.of bW5)
      have o5 := own5.own
      have p5 := own5.cap
      rw [hW5] at o5 p5 hE
      clear own1 hr1 hon1
      go_wp2_with (at_builtin; refine wpList_append_row (by rfl) _ _ (by rfl) sliceStr a' l.length c' _ (by rfl) o5 p5 (some ⟨X1.heap.size, 0, none⟩) 1 1 (fun _ _ => .string (gs ss k)) (by rfl) hE (fun _ _ => rfl) (by omega) ?_)
      rw [← hW5]
      intro a'' c'' w6 apd
      have sn := own5.snoc on5.size apd
      have r6 := r5.only apd.only (fun q hq => by have := own5.lo q hq; omega)
      have on6 := on5.next apd.only (fun q hq hq' => by have := own5.lo q hq; omega)
      have HF : Hid _ := And.intro sn (And.intro r6 on6)
      have hmem2 : ∀ s ∈ l ++ [gs ss k], s ∈ ss := by
       intro s hs
       rcases List.mem_append.1 hs with h | h
       · exact hmem s h
       · rw [List.mem_singleton.1 h]; exact gs_mem hlt
      have hlen : l.length + 1 = (l ++ [gs ss k]).length := by simp
      rw [hlen]
      have HL : Hid _ := hlen
      clear hlen sn r6 on6 apd own5 r5 on5 o5 p5 hE hW5 bW5
      go_wp2
      go_roundw
      case rel => exact ⟨k + 1, l ++ [gs ss k], _, _, p' + 1, _, rfl, by omega, by go_num, rfl, HF.out.1, by have := HL.out; omega, hmem2, by omega, by omega, HF.out.2.1, HF.out.2.2⟩
      case measure => simp [intOf]; omega
    · have hvb : (v == 0) = false := by simp [hv]
      go_wp2
      go_roundw
      case rel => exact ⟨k + 1, l, _, _, p' + 1, _, rfl, by omega, by go_num, rfl, own1, by omega, hmem, by omega, by omega, hr1, hon1⟩
      case measure => simp [intOf]; omega
  · have FIN : Hid _ := And.intro own (And.intro hrd hon)
    clear own hrd hon
    by_cases hlt : k < ss.length
    · have hlt2 : (k : Int) < ss.length := by omega
      have hmost : ¬ (l.length : Int) < most := fun h => hgo ⟨hlt, h⟩
      go_wp2
      go_ret
      exact ⟨⟨l, _, _, p', rfl, FIN.out.1, by omega, hmem, hp1, by omega, FIN.out.2.1⟩, FIN.out.2.2⟩
    · have hlt2 : ¬ (k : Int) < ss.length := by omega
      go_wp2
      go_ret
      exact ⟨⟨l, _, _, p', rfl, FIN.out.1, by omega, hmem, hp1, by omega, FIN.out.2.1⟩, FIN.out.2.2⟩

end Go.Proofs.YtfmhkicncgccjaaGreat

