/- Joined: DrT, DrH, DrI, DrM, DrP0, OrdF, DrO, DrE. -/
import Derived.Test.YtfmhkicncgccjaaGreatFm13
import Derived.Test.YtfmhkicncgccjaaGreatFm20
import Derived.Test.YtfmhkicncgccjaaGreatFm25
import Derived.Test.YtfmhkicncgccjaaGreatFm12
import Derived.Test.YtfmhkicncgccjaaGreatFm11
import Derived.Test.YtfmhkicncgccjaaGreatFm05
import Derived.Test.YtfmhkicncgccjaaGreatFm06
/- Plain: a book whose lists are few and whose names are short stays so, granted, stopped and over. -/
namespace Go.Proofs.YtfmhkicncgccjaaGreat
open Go.RowKit Go.Sort
set_option linter.unusedSimpArgs false
set_option linter.unusedVariables false

/-- A want whose names are short. -/
structure ShortW (y : Want) : Prop where
 stuffs : ∀ t ∈ y.stuffs, t.size ≤ 100
 uses : ∀ t ∈ y.uses, t.name.size ≤ 100
 opens : ∀ t ∈ y.opens, t.size ≤ 100
 shuts : ∀ t ∈ y.shuts, t.size ≤ 100
/-- A want whose lists are not too long. -/
structure RoomW (N : Nat) (y : Want) : Prop where
 stuffs : y.stuffs.length ≤ N
 uses : y.uses.length ≤ N
 opens : y.opens.length ≤ N
 shuts : y.shuts.length ≤ N
theorem RoomW.mono {N N' : Nat} {y : Want} (h : RoomW N y) (hn : N ≤ N') : RoomW N' y := ⟨Nat.le_trans h.stuffs hn, Nat.le_trans h.uses hn, Nat.le_trans h.opens hn, Nat.le_trans h.shuts hn⟩
theorem len100 : (30000 : Nat) ≤ maxLen := by unfold maxLen; omega
theorem TinyW.short {y : Want} (h : TinyW y) : ShortW y := ⟨h.stuffs.2, h.uses.2, h.opens.2, h.shuts.2⟩
theorem TinyW.roomW {y : Want} (h : TinyW y) : RoomW 100 y := ⟨by have := h.stuffs.1; omega, by have := h.uses.1; omega, by have := h.opens.1; omega, by have := h.shuts.1; omega⟩
theorem ShortW.fit {y : Want} (h : ShortW y) (hl : RoomW 30000 y) : WantFit y := by
 have hM := len100
 obtain ⟨l1, l2, l3, l4⟩ := hl
 exact ⟨⟨by omega, fun t ht => by have := h.stuffs t ht; omega⟩, by omega, fun t ht => by have := h.uses t ht; omega, ⟨by omega, fun t ht => by have := h.opens t ht; omega⟩, ⟨by omega, fun t ht => by have := h.shuts t ht; omega⟩⟩
theorem TinyW.fit {y : Want} (h : TinyW y) : WantFit y := h.short.fit (h.roomW.mono (by omega))
theorem RoomW.room {y : Want} (h : RoomW 30000 y) : WantRoom y := ⟨by have := h.stuffs; omega, by have := h.uses; omega, by have := h.opens; omega, by have := h.shuts; omega⟩
theorem TinyW.room {y : Want} (h : TinyW y) : WantRoom y := (h.roomW.mono (by omega)).room
theorem Tiny.fit {x : Book} (h : Tiny x) : BookFit x := by
 have hM := len100
 obtain ⟨⟨f1, f2⟩, ⟨s1, s2⟩, ⟨v1, v2⟩, ⟨p1, p2⟩⟩ := h
 exact ⟨⟨by omega, fun s hs => by have := f2 s hs; omega⟩, ⟨by omega, fun s hs => by have := s2 s hs; unfold TinyS at this; exact ⟨by omega, by omega, fun t ht => by have := this.2.2 t ht; omega⟩⟩, ⟨by omega, fun t ht => by have := v2 t ht; omega⟩, ⟨by omega, fun q hq => (p2 q hq).fit⟩⟩
theorem Tiny.room {x : Book} (h : Tiny x) : BookRoom x := by
 obtain ⟨⟨f1, f2⟩, ⟨s1, s2⟩, ⟨v1, v2⟩, ⟨p1, p2⟩⟩ := h
 exact ⟨by omega, by omega, fun s hs => by have := s2 s hs; unfold TinyS at this; omega, by omega, by omega, fun q hq => (p2 q hq).room⟩
theorem tiny_nil : Tiny bookNil := ⟨⟨by simp [bookNil], by simp [bookNil]⟩, ⟨by simp [bookNil], by simp [bookNil]⟩, ⟨by simp [bookNil], by simp [bookNil]⟩, ⟨by simp [bookNil], by simp [bookNil]⟩⟩
theorem mem_stopAt2 {ps : List Part} {k : Nat} (hk : k < ps.length) {p : Part} (h : p ∈ stopAt ps k) : ∃ q ∈ ps, q.want = p.want := by
 obtain ⟨i, hi, rfl⟩ := List.mem_iff_getElem.1 h
 have hi' : i < ps.length := by rw [stopAt_length] at hi; exact hi
 refine ⟨gq ps i, gq_mem hi', ?_⟩
 rw [← stopAt_want hk i, gq_lt hi]
theorem Tiny.stop {x : Book} (h : Tiny x) (n : Int) : Tiny (stopB x n) := by
 unfold stopB
 split
 · rcases partI_cases x.parts n with ⟨hp, -⟩ | ⟨j, hj, hp, -⟩
   · rw [hp, if_neg (by omega)]; exact h
   · rw [hp, if_pos (by omega)]
     refine ⟨h.foes, h.spots, h.valves, ⟨?_, fun p hp => ?_⟩⟩
     · show (stopAt x.parts _).length ≤ _
       rw [stopAt_length]; exact h.parts.1
     · obtain ⟨q, hq, e⟩ := mem_stopAt2 (by omega) hp
       rw [← e]; exact h.parts.2 q hq
 · exact tiny_nil
theorem Tiny.over {x : Book} (h : Tiny x) (n moved : Int) (done : Bool) : Tiny (overB x n moved done) := by
 unfold overB
 split
 · split
   · refine ⟨h.foes, ⟨?_, fun s hs' => ?_⟩, h.valves, ⟨?_, fun p hp => h.parts.2 p (List.mem_of_mem_eraseIdx hp)⟩⟩
     · show (upTo _ x.spots _ _).length ≤ _
       rw [upTo_length]; exact h.spots.1
     · obtain ⟨i, hi, rfl⟩ := mem_upTo hs'
       exact upTo_all (f := settleS (gq x.parts (partI x.parts n).toNat).want.kind moved done) (ss := x.spots) (us := (gq x.parts (partI x.parts n).toNat).want.uses) (R := fun _ _ s => TinyS s) (fun i hi => h.spots.2 _ (gp_mem hi)) (fun _ _ _ _ h => h) (fun k i s hk h => by
        unfold settleS TinyS at *
        dsimp only
        split
        · exact ⟨h.1, by simp, fun t ht => by cases ht⟩
        · exact h) _ (Nat.le_refl _) i hi
     · show (x.parts.eraseIdx _).length ≤ _
       have := List.length_eraseIdx_le x.parts (partI x.parts n).toNat
       have := h.parts.1
       omega
   · exact h
 · exact tiny_nil
theorem mem_insS {t s : ByteArray} : ∀ {l : List ByteArray}, t ∈ insS l s → t ∈ l ∨ t = s
 | [], h => by simp [insS] at h; exact Or.inr h
 | a :: r, h => by
  unfold insS at h
  split at h
  · rcases List.mem_cons.1 h with h | h
    · exact Or.inl (List.mem_cons.2 (Or.inl h))
    · rcases mem_insS h with h | h
      · exact Or.inl (List.mem_cons_of_mem _ h)
      · exact Or.inr h
  · split at h
    · exact Or.inl h
    · rcases List.mem_cons.1 h with h | h
      · exact Or.inr h
      · exact Or.inl h
theorem insS_len (s : ByteArray) : ∀ (l : List ByteArray), (insS l s).length ≤ l.length + 1
 | [] => by simp [insS]
 | a :: r => by
  unfold insS
  split
  · have := insS_len s r
    simp; omega
  · split
    · simp
    · simp
theorem mem_insTo2 {l ss : List ByteArray} {t : ByteArray} : ∀ k, t ∈ insTo l ss k → t ∈ l ∨ t ∈ ss
 | 0, h => by rw [insTo_zero] at h; exact Or.inl h
 | k + 1, h => by
  by_cases hk : k < ss.length
  · rw [insTo_succ hk] at h
    rcases mem_insS h with h | h
    · exact mem_insTo2 k h
    · exact Or.inr (h ▸ (by rw [gs_lt hk]; exact List.getElem_mem _))
  · have e : insTo l ss (k + 1) = insTo l ss k := by
     unfold insTo
     rw [List.take_of_length_le (by omega), List.take_of_length_le (by omega)]
    rw [e] at h
    exact mem_insTo2 k h
theorem Tiny.put {x : Book} {y : Want} (h : Tiny x) (hb : bookB x = true) (hy : ShortW y) (hw : wantB y = true) : Tiny (putAt (seenAt x y.number) y) := by
 have hs := bookB_small hb
 have hl := wantB_small hw
 refine ⟨h.foes, ⟨?_, fun s hs' => ?_⟩, h.valves, ⟨?_, fun p hp => ?_⟩⟩
 · show (upTo _ x.spots _ _).length ≤ _
   rw [upTo_length]; omega
 · obtain ⟨j, hj, rfl⟩ := mem_upTo hs'
   have h1 := (upTo_grant hw (levels_of hb) y.uses.length (Nat.le_refl _) j hj).2
   have h2 := upTo_all (f := grantS y.stuffs) (ss := x.spots) (us := y.uses) (R := fun _ _ s => s.name.size ≤ 100 ∧ ∀ t ∈ s.may, t.size ≤ 100) (fun j hj => ⟨(h.spots.2 _ (gp_mem hj)).1, (h.spots.2 _ (gp_mem hj)).2.2⟩) (fun _ _ _ _ h => h) (fun k j s hk h => ⟨h.1, fun t ht => by
    unfold grantS at ht
    dsimp only at ht
    split at ht
    · exact h.2 t ht
    · rcases mem_insTo2 _ ht with h' | h'
      · exact h.2 t h'
      · exact hy.stuffs t h'⟩) y.uses.length (Nat.le_refl _) j hj
   refine ⟨h2.1, ?_, h2.2⟩
   show (gp (upTo (grantS y.stuffs) x.spots y.uses y.uses.length) j).may.length ≤ _
   omega
 · show (x.parts ++ [_]).length ≤ _
   simp; omega
 · rcases List.mem_append.1 hp with h' | h'
   · exact h.parts.2 p h'
   · rw [List.mem_singleton.1 h']; exact ⟨⟨by show y.stuffs.length ≤ _; omega, hy.stuffs⟩, ⟨by show y.uses.length ≤ _; omega, hy.uses⟩, ⟨by show y.opens.length ≤ _; omega, hy.opens⟩, ⟨by show y.shuts.length ≤ _; omega, hy.shuts⟩⟩
theorem Tiny.grant {x : Book} {y : Want} (h : Tiny x) (hy : ShortW y) : Tiny (grantB x y) := by
 cases hB : bookB x with
 | false => have : grantB x y = bookNil := by simp [grantB, hB]
            rw [this]; exact tiny_nil
 | true =>
  obtain ⟨-, -, -, hways⟩ := code_ways (y := y) hB
  unfold grantB
  rw [hB, if_pos rfl]
  rcases hways with ⟨h', -⟩ | ⟨hnA, h'⟩
  · rw [if_pos h']; exact h
  · rw [if_neg hnA]
    rcases h' with h' | h'
    · rw [if_pos h'.1]; exact h.put hB hy h'.2.1
    · rw [if_neg (by omega)]; exact ⟨h.foes, h.spots, h.valves, h.parts⟩

end Go.Proofs.YtfmhkicncgccjaaGreat

/- A want whose four lists are its own, with their rooms: what l1Want answers. -/
namespace Go.Proofs.YtfmhkicncgccjaaGreat
open Go.RowKit Go.Sort
set_option linter.unusedSimpArgs false
set_option linter.unusedVariables false

/-- A list of uses of its own, its room known, in a block from B on. -/
structure OwU (B : Nat) (w : World) (l : List Use) (a : Option Addr) (c : Nat) : Prop where
 own : OwnL w 101 3 a l.length (useF l)
 cap : CapOf w 101 3 a l.length c
 lo : ∀ y, InAddr a y → B ≤ y
theorem OwU.only {B : Nat} {D : Nat → Prop} {w w' : World} {l : List Use} {a : Option Addr} {c : Nat} (h : OwU B w l a c) (ho : Only D w w') (hd : ∀ y, InAddr a y → ¬ D y) : OwU B w' l a c :=
 ⟨h.own.only ho (fun y hy => hd y hy.2), h.cap.only ho hd, h.lo⟩
theorem OwU.later {B : Nat} {w w' : World} {l : List Use} {a : Option Addr} {c : Nat} (h : OwU B w l a c) (hb : Below w.heap.size w w') : OwU B w' l a c := ⟨h.own.later hb, h.cap.later hb, h.lo⟩
theorem OwU.mono {B B' : Nat} {w : World} {l : List Use} {a : Option Addr} {c : Nat} (h : OwU B w l a c) (hb : B' ≤ B) : OwU B' w l a c := ⟨h.own, h.cap, fun y hy => Nat.le_trans hb (h.lo y hy)⟩
theorem useF_snoc (l : List Use) (u : Use) (g : Nat → Nat → Value) (hg : ∀ j, j < 3 → g 0 j = useF [u] 0 j) (k j : Nat) (hj : j < 3) : k < l.length + 1 → behindF l.length (useF l) g k j = useF (l ++ [u]) k j := by
 intro hk
 unfold behindF
 by_cases h : k < l.length
 · rw [if_pos h]
   unfold useF gu
   simp [h, List.getElem?_append]
 · have : k = l.length := by omega
   subst this
   rw [if_neg h, Nat.sub_self, hg j hj]
   unfold useF gu
   simp
theorem OwU.snoc {B : Nat} {w w' : World} {l : List Use} {a a' : Option Addr} {c c' : Nat} {u : Use} {g : Nat → Nat → Value} (h : OwU B w l a c) (hB : B ≤ w.heap.size) (hg : ∀ j, j < 3 → g 0 j = useF [u] 0 j) (ap : Appended 101 3 w w' a l.length 1 (useF l) g a' c') : OwU B w' (l ++ [u]) a' c' := by
 have e : (l ++ [u]).length = l.length + 1 := by simp
 refine ⟨?_, ?_, fun y hy => ?_⟩
 · rw [e]; exact ap.own.congr (fun k hk j hj => useF_snoc l u g hg k j hj hk)
 · rw [e]; exact ap.cap
 · rcases ap.at_ y hy with h' | h'
   · exact h.lo y h'
   · omega
/-- A want whose four lists are its own, from B on. -/
structure OwW (B : Nat) (w : World) (y : Want) (a2 a3 a4 a5 : Option Addr) (c2 c3 c4 c5 : Nat) : Prop where
 l2 : OwS B w y.stuffs a2 c2
 l3 : OwU B w y.uses a3 c3
 l4 : OwS B w y.opens a4 c4
 l5 : OwS B w y.shuts a5 c5
 d23 : ∀ q, InAddr a2 q → ¬ InAddr a3 q
 d24 : ∀ q, InAddr a2 q → ¬ InAddr a4 q
 d25 : ∀ q, InAddr a2 q → ¬ InAddr a5 q
 d34 : ∀ q, InAddr a3 q → ¬ InAddr a4 q
 d35 : ∀ q, InAddr a3 q → ¬ InAddr a5 q
 d45 : ∀ q, InAddr a4 q → ¬ InAddr a5 q
theorem OwW.only {B : Nat} {D : Nat → Prop} {w w' : World} {y : Want} {a2 a3 a4 a5 : Option Addr} {c2 c3 c4 c5 : Nat} (h : OwW B w y a2 a3 a4 a5 c2 c3 c4 c5) (ho : Only D w w') (hd : ∀ q, D q → q < B) : OwW B w' y a2 a3 a4 a5 c2 c3 c4 c5 :=
 ⟨h.l2.only ho (fun q hq hq' => by have := h.l2.lo q hq; have := hd q hq'; omega), h.l3.only ho (fun q hq hq' => by have := h.l3.lo q hq; have := hd q hq'; omega), h.l4.only ho (fun q hq hq' => by have := h.l4.lo q hq; have := hd q hq'; omega), h.l5.only ho (fun q hq hq' => by have := h.l5.lo q hq; have := hd q hq'; omega), h.d23, h.d24, h.d25, h.d34, h.d35, h.d45⟩
theorem OwW.later {B : Nat} {w w' : World} {y : Want} {a2 a3 a4 a5 : Option Addr} {c2 c3 c4 c5 : Nat} (h : OwW B w y a2 a3 a4 a5 c2 c3 c4 c5) (hb : Below w.heap.size w w') : OwW B w' y a2 a3 a4 a5 c2 c3 c4 c5 :=
 ⟨h.l2.later hb, h.l3.later hb, h.l4.later hb, h.l5.later hb, h.d23, h.d24, h.d25, h.d34, h.d35, h.d45⟩
theorem OwW.mono {B B' : Nat} {w : World} {y : Want} {a2 a3 a4 a5 : Option Addr} {c2 c3 c4 c5 : Nat} (h : OwW B w y a2 a3 a4 a5 c2 c3 c4 c5) (hb : B' ≤ B) : OwW B' w y a2 a3 a4 a5 c2 c3 c4 c5 :=
 ⟨h.l2.mono hb, h.l3.mono hb, h.l4.mono hb, h.l5.mono hb, h.d23, h.d24, h.d25, h.d34, h.d35, h.d45⟩
theorem OwW.dr {B : Nat} {w : World} {y : Want} {a2 a3 a4 a5 : Option Addr} {c2 c3 c4 c5 : Nat} (h : OwW B w y a2 a3 a4 a5 c2 c3 c4 c5) : DrW B w y a2 a3 a4 a5 :=
 ⟨⟨h.l2.own.rowAt, h.l3.own.rowAt, h.l4.own.rowAt, h.l5.own.rowAt⟩, fun q hq => h.l2.lo q hq.2, fun q hq => h.l3.lo q hq.2, fun q hq => h.l4.lo q hq.2, fun q hq => h.l5.lo q hq.2⟩

set_option maxRecDepth 100000 in
set_option maxHeartbeats 2000000 in
theorem l1Want_cap (y : Want) (a2 a3 a4 a5 : Option Addr) (c2 c3 c4 c5 : Nat) (w : World) (hin : WantIn w y a2 a3 a4 a5) (hr : WantRoom y) :
 Calls Tryz.prog 79 #[wantW y a2 a3 a4 a5 c2 c3 c4 c5] w fun e w' => (∃ (d2 d3 d4 d5 : Option Addr) (k2 k3 k4 k5 : Nat), e = .returned (wantW y d2 d3 d4 d5 k2 k3 k4 k5) ∧ OwW w.heap.size w' y d2 d3 d4 d5 k2 k3 k4 k5) ∧ Below w.heap.size w w' := by
 have r2 := hr.stuffs
 have r3 := hr.uses
 have r4 := hr.opens
 have r5 := hr.shuts
 unfold wantW
 obtain ⟨W0, hW0⟩ : ∃ W, W = ((w.alloc (.cells #[.int .i64 y.number, .int .i64 y.kind, .slice a2 y.stuffs.length c2, .slice a3 y.uses.length c3, .slice a4 y.opens.length c4, .slice a5 y.shuts.length c5] 38)).alloc (.cells #[.int .i64 0, .int .i64 0, .slice none 0 0, .slice none 0 0, .slice none 0 0, .slice none 0 0] 38)).alloc (.cells #[] 101) := ⟨_, rfl⟩
 have b0 : Below w.heap.size w W0 := by rw [hW0]; exact (((Below.refl _ _).alloc (Nat.le_refl _) _).alloc (by simp) _).alloc (by simp; omega) _
 have i0 : Row W0 w.heap.size 38 [.int .i64 y.number, .int .i64 y.kind, .slice a2 y.stuffs.length c2, .slice a3 y.uses.length c3, .slice a4 y.opens.length c4, .slice a5 y.shuts.length c5] := by rw [hW0]; exact ((Row.new _ _ _).alloc _).alloc _
 have z0 : Row W0 (w.heap.size + 1) 38 [.int .i64 0, .int .i64 0, .slice none 0 0, .slice none 0 0, .slice none 0 0, .slice none 0 0] := by
  rw [hW0]
  exact (Row.new' (by simp)).alloc _
 have e0 : Row W0 (w.heap.size + 1 + 1) 101 [] := by
  rw [hW0]
  exact Row.new' (by simp)
 have sz0 : W0.heap.size = w.heap.size + 3 := by rw [hW0]; simp
 have hne : w.heap.size + 1 ≠ w.heap.size := by omega
 have hu0 := (hin.later b0).uses
 rw [hW0] at hu0
 have e0' := e0
 rw [hW0] at e0'
 go_enter Tryz.func79, Tryz.ntmps79
 go_wp2_with (at_builtin; refine wpList_append_new (by rfl) _ _ (by rfl) sliceUse (some ⟨w.heap.size + 1 + 1, 0, none⟩) 0 (by rfl) (capOf_row e0') a3 y.uses.length c3 (useF y.uses) (by rfl) hu0 (oneUse _) (by omega) ?_)
 rw [← hW0]
 clear hW0 hu0 e0'
 intro d3 k3 w1 o3 p3 at3 on3
 have n0 : ¬ InAddr (some ⟨w.heap.size + 1 + 1, 0, none⟩) w.heap.size := fun ⟨o, h⟩ => by simp at h
 have n1 : ¬ InAddr (some ⟨w.heap.size + 1 + 1, 0, none⟩) (w.heap.size + 1) := fun ⟨o, h⟩ => by simp at h
 have b1 := b0.trans (on3.below (n := w.heap.size) (fun y ⟨o, h⟩ => by simp at h; omega) b0.size)
 have i1 := i0.only on3 n0
 have z1 := z0.only on3 n1
 have sz1 : w.heap.size + 3 ≤ w1.heap.size := by have := on3.size; omega
 have O3 : Hid (∀ y, InAddr d3 y → w.heap.size + 2 ≤ y ∧ y < w1.heap.size) := fun q hq => ⟨by
  rcases at3 q hq with ⟨o, h⟩ | h
  · simp at h; omega
  · omega, p3.lt hq⟩
 have s3 : OwU (w.heap.size + 2) w1 y.uses d3 k3 := ⟨o3, p3, fun q hq => (O3.out q hq).1⟩
 clear b0 i0 z0 e0 sz0 at3 on3 n0 n1 o3 p3
 have q2 := i1.cell 2 rfl
 have f3 := i1.frozen 3
 have g3 := i1.cell 3 rfl
 go_wp2_with fail
 obtain ⟨W1, hW1⟩ : ∃ W, W = w1.setCell ⟨w.heap.size, 3, none⟩ (.slice d3 y.uses.length k3) := ⟨_, rfl⟩
 have b1 : Below w.heap.size w W1 := by rw [hW1]; exact b1.setCell (by simp) _
 have i1 := i1.set 3 (.slice d3 y.uses.length k3)
 have z1 := z1.other (a := ⟨w.heap.size, 3, none⟩) hne (.slice d3 y.uses.length k3)
 have s3 := s3.only (Only.cell _ ⟨w.heap.size, 3, none⟩ (.slice d3 y.uses.length k3)) (fun q hq e => by have := s3.lo q hq; simp only at e; omega)
 have sW1 : W1.heap.size = w1.heap.size := by rw [hW1, Go.Deep.nblk_setCell]
 rw [← hW1] at i1 z1 s3 ⊢
 clear hW1 q2 f3 g3
 refine (l1Names_own a2 y.stuffs.length c2 (strF y.stuffs) W1 (hin.later b1).stuffs (oneStr _) r2).mono ?_
 rintro e w2 ⟨⟨d2, k2, rfl, o2, p2, lo2⟩, hb⟩
 have b2 := b1.trans (hb.mono b1.size)
 have i2 := i1.later hb
 have z2 := z1.later hb
 have s3 := s3.later hb
 have sz2 : w1.heap.size ≤ w2.heap.size := by have := hb.size; omega
 have O2 : Hid (∀ y, InAddr d2 y → w1.heap.size ≤ y ∧ y < w2.heap.size) := fun q hq => ⟨by have := lo2 q hq; omega, p2.lt hq⟩
 have s2 : OwS (w.heap.size + 2) w2 y.stuffs d2 k2 := ⟨o2, p2, fun q hq => by have := (O2.out q hq).1; omega⟩
 clear b1 i1 z1 hb sW1 lo2 o2 p2
 have q4 := i2.cell 4 rfl
 have f2 := i2.frozen 2
 have g2 := i2.cell 2 rfl
 go_wp2_with fail
 obtain ⟨W2, hW2⟩ : ∃ W, W = w2.setCell ⟨w.heap.size, 2, none⟩ (.slice d2 y.stuffs.length k2) := ⟨_, rfl⟩
 have b2 : Below w.heap.size w W2 := by rw [hW2]; exact b2.setCell (by simp) _
 have i2 := i2.set 2 (.slice d2 y.stuffs.length k2)
 have z2 := z2.other (a := ⟨w.heap.size, 2, none⟩) hne (.slice d2 y.stuffs.length k2)
 have s3 := s3.only (Only.cell _ ⟨w.heap.size, 2, none⟩ (.slice d2 y.stuffs.length k2)) (fun q hq e => by have := s3.lo q hq; simp only at e; omega)
 have s2 := s2.only (Only.cell _ ⟨w.heap.size, 2, none⟩ (.slice d2 y.stuffs.length k2)) (fun q hq e => by have := s2.lo q hq; simp only at e; omega)
 have sW2 : W2.heap.size = w2.heap.size := by rw [hW2, Go.Deep.nblk_setCell]
 rw [← hW2] at i2 z2 s3 s2 ⊢
 clear hW2 q4 f2 g2
 refine (l1Names_own a4 y.opens.length c4 (strF y.opens) W2 (hin.later b2).opens (oneStr _) r4).mono ?_
 rintro e w3 ⟨⟨d4, k4, rfl, o4, p4, lo4⟩, hb⟩
 have b3 := b2.trans (hb.mono b2.size)
 have i3 := i2.later hb
 have z3 := z2.later hb
 have s3 := s3.later hb
 have s2 := s2.later hb
 have sz3 : w2.heap.size ≤ w3.heap.size := by have := hb.size; omega
 have O4 : Hid (∀ y, InAddr d4 y → w2.heap.size ≤ y ∧ y < w3.heap.size) := fun q hq => ⟨by have := lo4 q hq; omega, p4.lt hq⟩
 have s4 : OwS (w.heap.size + 2) w3 y.opens d4 k4 := ⟨o4, p4, fun q hq => by have := (O4.out q hq).1; omega⟩
 clear b2 i2 z2 hb sW2 lo4 o4 p4
 have q5 := i3.cell 5 rfl
 have f4 := i3.frozen 4
 have g4 := i3.cell 4 rfl
 go_wp2_with fail
 obtain ⟨W3, hW3⟩ : ∃ W, W = w3.setCell ⟨w.heap.size, 4, none⟩ (.slice d4 y.opens.length k4) := ⟨_, rfl⟩
 have b3 : Below w.heap.size w W3 := by rw [hW3]; exact b3.setCell (by simp) _
 have i3 := i3.set 4 (.slice d4 y.opens.length k4)
 have z3 := z3.other (a := ⟨w.heap.size, 4, none⟩) hne (.slice d4 y.opens.length k4)
 have s3 := s3.only (Only.cell _ ⟨w.heap.size, 4, none⟩ (.slice d4 y.opens.length k4)) (fun q hq e => by have := s3.lo q hq; simp only at e; omega)
 have s2 := s2.only (Only.cell _ ⟨w.heap.size, 4, none⟩ (.slice d4 y.opens.length k4)) (fun q hq e => by have := s2.lo q hq; simp only at e; omega)
 have s4 := s4.only (Only.cell _ ⟨w.heap.size, 4, none⟩ (.slice d4 y.opens.length k4)) (fun q hq e => by have := s4.lo q hq; simp only at e; omega)
 have sW3 : W3.heap.size = w3.heap.size := by rw [hW3, Go.Deep.nblk_setCell]
 rw [← hW3] at i3 z3 s3 s2 s4 ⊢
 clear hW3 q5 f4 g4
 refine (l1Names_own a5 y.shuts.length c5 (strF y.shuts) W3 (hin.later b3).shuts (oneStr _) r5).mono ?_
 rintro e w4 ⟨⟨d5, k5, rfl, o5, p5, lo5⟩, hb⟩
 have b4 := b3.trans (hb.mono b3.size)
 have i4 := i3.later hb
 have z4 := z3.later hb
 have s3 := s3.later hb
 have s2 := s2.later hb
 have s4 := s4.later hb
 have sz4 : w3.heap.size ≤ w4.heap.size := by have := hb.size; omega
 have O5 : Hid (∀ y, InAddr d5 y → w3.heap.size ≤ y ∧ y < w4.heap.size) := fun q hq => ⟨by have := lo5 q hq; omega, p5.lt hq⟩
 have s5 : OwS (w.heap.size + 2) w4 y.shuts d5 k5 := ⟨o5, p5, fun q hq => by have := (O5.out q hq).1; omega⟩
 clear b3 i3 z3 hb sW3 lo5 o5 p5
 have own : OwW (w.heap.size + 2) w4 y d2 d3 d4 d5 k2 k3 k4 k5 :=
  ⟨s2, s3, s4, s5, fun q h h' => by have := O2.out q h; have := O3.out q h'; omega, fun q h h' => by have := O2.out q h; have := O4.out q h'; omega, fun q h h' => by have := O2.out q h; have := O5.out q h'; omega, fun q h h' => by have := O3.out q h; have := O4.out q h'; omega, fun q h h' => by have := O3.out q h; have := O5.out q h'; omega, fun q h h' => by have := O4.out q h; have := O5.out q h'; omega⟩
 have OWN : Hid _ := own
 clear O2 O3 O4 O5 s2 s3 s4 s5 own
 have f5 := i4.frozen 5
 have g0 := i4.cell 0 rfl
 have g1 := i4.cell 1 rfl
 have g2 := i4.cell 2 rfl
 have g3 := i4.cell 3 rfl
 have g4 := i4.cell 4 rfl
 have g5 := i4.cell 5 rfl
 have r0 := z4.cell 0 rfl
 have r1 := z4.cell 1 rfl
 have r2 := z4.cell 2 rfl
 have r3 := z4.cell 3 rfl
 have r4 := z4.cell 4 rfl
 have r5 := z4.cell 5 rfl
 have k0' := z4.frozen 0
 have k1' := z4.frozen 1
 have k2' := z4.frozen 2
 have k3' := z4.frozen 3
 have k4' := z4.frozen 4
 have k5' := z4.frozen 5
 go_wp2
 refine bodyPost_ret (v := .agg #[.int .i64 y.number, .int .i64 y.kind, .slice d2 y.stuffs.length k2, .slice d3 y.uses.length k3, .slice d4 y.opens.length k4, .slice d5 y.shuts.length k5])
  (by simp [results, Tryz.results79, go_sem, r0, r1, r2, r3, r4, r5]) rfl ⟨⟨d2, d3, d4, d5, k2, k3, k4, k5, rfl, ?_⟩, ?_⟩
 · have g1 : ∀ q, q = w.heap.size + 1 → q < w.heap.size + 2 := fun q hq => by omega
   have g2 : ∀ q, q = w.heap.size → q < w.heap.size + 2 := fun q hq => by omega
   exact (((((((OWN.out.only (Only.cell _ ⟨w.heap.size, 5, none⟩ _) g2).only (Only.cell _ ⟨w.heap.size + 1, 0, none⟩ _) g1).only (Only.cell _ ⟨w.heap.size + 1, 1, none⟩ _) g1).only (Only.cell _ ⟨w.heap.size + 1, 2, none⟩ _) g1).only (Only.cell _ ⟨w.heap.size + 1, 3, none⟩ _) g1).only (Only.cell _ ⟨w.heap.size + 1, 4, none⟩ _) g1).only (Only.cell _ ⟨w.heap.size + 1, 5, none⟩ _) g1).mono (by omega)
 · exact ((((((b4.setCell (by simp) _).setCell (by simp) _).setCell (by simp) _).setCell (by simp) _).setCell (by simp) _).setCell (by simp) _).setCell (by simp) _

end Go.Proofs.YtfmhkicncgccjaaGreat

/- A want that is being drawn: its variable, its lists and the reader; plain: what each step leaves of it. -/
namespace Go.Proofs.YtfmhkicncgccjaaGreat
open Go.RowKit Go.Sort
set_option linter.unusedSimpArgs false
set_option linter.unusedVariables false

/-- The cells of a want. -/
def wantCs (y : Want) (a2 a3 a4 a5 : Option Addr) (c2 c3 c4 c5 : Nat) : List Value :=
 [.int .i64 y.number, .int .i64 y.kind, .slice a2 y.stuffs.length c2, .slice a3 y.uses.length c3, .slice a4 y.opens.length c4, .slice a5 y.shuts.length c5]
/-- A want is being drawn in the block Sb. -/
structure DrwAt (W0 : World) (Rb : Nat) (a : Option Addr) (n cap : Nat) (f : Nat → Nat) (w : World) (Sb : Nat) (X : World) (p : Int) (y : Want) (a2 a3 a4 a5 : Option Addr) (c2 c3 c4 c5 : Nat) : Prop where
 row : Row X Sb 38 (wantCs y a2 a3 a4 a5 c2 c3 c4 c5)
 rd : Rd W0 Rb a n cap f X p
 on : Only (fun q => q = Rb) w X
 new : w.heap.size ≤ Sb
 old : Rb < w.heap.size
 s2 : OwnL X 9 1 a2 y.stuffs.length (strF y.stuffs)
 k2 : y.stuffs.length ≤ c2
 s3 : OwU (Sb + 1) X y.uses a3 c3
 s4 : OwS (Sb + 1) X y.opens a4 c4
 s5 : OwnL X 9 1 a5 y.shuts.length (strF y.shuts)
 lo2 : ∀ q, InSlot a2 y.stuffs.length q → Sb < q
 lo5 : ∀ q, InSlot a5 y.shuts.length q → Sb < q
 d23 : ∀ q, InSlot a2 y.stuffs.length q → ¬ InAddr a3 q
 d24 : ∀ q, InSlot a2 y.stuffs.length q → ¬ InAddr a4 q
 d34 : ∀ q, InAddr a3 q → ¬ InAddr a4 q
 d35 : ∀ q, InSlot a5 y.shuts.length q → ¬ InAddr a3 q
 d45 : ∀ q, InSlot a5 y.shuts.length q → ¬ InAddr a4 q
 short : ShortW y

section
variable {W0 : World} {Rb : Nat} {a : Option Addr} {n cap : Nat} {f : Nat → Nat} {w : World} {Sb : Nat} {X X' : World} {p p' : Int} {y : Want} {a2 a3 a4 a5 : Option Addr} {c2 c3 c4 c5 : Nat}
theorem DrwAt.pick (h : DrwAt W0 Rb a n cap f w Sb X p y a2 a3 a4 a5 c2 c3 c4 c5) (hr : Rd W0 Rb a n cap f X' p') (ho : Only (fun q => q = Rb) X X') : DrwAt W0 Rb a n cap f w Sb X' p' y a2 a3 a4 a5 c2 c3 c4 c5 :=
 have hlt : Rb < Sb := by have := h.new; have := h.old; omega
 ⟨h.row.only ho (by omega), hr, h.on.trans ho, h.new, h.old, h.s2.only ho (fun q hq e => by have := h.lo2 q hq; omega), h.k2, h.s3.only ho (fun q hq e => by have := h.s3.lo q hq; omega), h.s4.only ho (fun q hq e => by have := h.s4.lo q hq; omega), h.s5.only ho (fun q hq e => by have := h.lo5 q hq; omega), h.lo2, h.lo5, h.d23, h.d24, h.d34, h.d35, h.d45, h.short⟩
theorem DrwAt.later (h : DrwAt W0 Rb a n cap f w Sb X p y a2 a3 a4 a5 c2 c3 c4 c5) (hb : Below X.heap.size X X') : DrwAt W0 Rb a n cap f w Sb X' p y a2 a3 a4 a5 c2 c3 c4 c5 :=
 ⟨h.row.later hb, h.rd.later hb, h.on.trans (Only.of hb), h.new, h.old, h.s2.later hb, h.k2, h.s3.later hb, h.s4.later hb, h.s5.later hb, h.lo2, h.lo5, h.d23, h.d24, h.d34, h.d35, h.d45, h.short⟩
/-- A field of the variable is written; the lists are told anew. -/
theorem DrwAt.put (h : DrwAt W0 Rb a n cap f w Sb X p y a2 a3 a4 a5 c2 c3 c4 c5) (i : Nat) (v : Value) {y' : Want} {a2' a3' a4' a5' : Option Addr} {c2' c3' c4' c5' : Nat} (e : (wantCs y a2 a3 a4 a5 c2 c3 c4 c5).set i v = wantCs y' a2' a3' a4' a5' c2' c3' c4' c5')
 (hB : Below X.heap.size X X' ∨ True) (hr : Row X' Sb 38 (wantCs y a2 a3 a4 a5 c2 c3 c4 c5)) (hrd : Rd W0 Rb a n cap f X' p') (hon : Only (fun q => q = Rb) w X')
 (s2 : OwnL X' 9 1 a2' y'.stuffs.length (strF y'.stuffs)) (k2 : y'.stuffs.length ≤ c2') (s3 : OwU (Sb + 1) X' y'.uses a3' c3') (s4 : OwS (Sb + 1) X' y'.opens a4' c4') (s5 : OwnL X' 9 1 a5' y'.shuts.length (strF y'.shuts))
 (lo2 : ∀ q, InSlot a2' y'.stuffs.length q → Sb < q) (lo5 : ∀ q, InSlot a5' y'.shuts.length q → Sb < q) (d23 : ∀ q, InSlot a2' y'.stuffs.length q → ¬ InAddr a3' q) (d24 : ∀ q, InSlot a2' y'.stuffs.length q → ¬ InAddr a4' q) (d34 : ∀ q, InAddr a3' q → ¬ InAddr a4' q) (d35 : ∀ q, InSlot a5' y'.shuts.length q → ¬ InAddr a3' q) (d45 : ∀ q, InSlot a5' y'.shuts.length q → ¬ InAddr a4' q) (short : ShortW y') :
 DrwAt W0 Rb a n cap f w Sb (X'.setCell ⟨Sb, i, none⟩ v) p' y' a2' a3' a4' a5' c2' c3' c4' c5' := by
 have oc : Only (fun q => q = Sb) X' (X'.setCell ⟨Sb, i, none⟩ v) := Only.cell _ ⟨Sb, i, none⟩ _
 have hlt : Rb < Sb := by have := h.new; have := h.old; omega
 refine ⟨by rw [← e]; exact hr.set i v, hrd.only oc (fun q hq => by have : q = Sb := hq; omega), hon.next oc (fun q hq hq' => by have : q = Sb := hq; have := h.new; omega), h.new, h.old, s2.only oc (fun q hq e => by have := lo2 q hq; have : q = Sb := e; omega), k2, s3.only oc (fun q hq e => by have := s3.lo q hq; have : q = Sb := e; omega), s4.only oc (fun q hq e => by have := s4.lo q hq; have : q = Sb := e; omega), s5.only oc (fun q hq e => by have := lo5 q hq; have : q = Sb := e; omega), lo2, lo5, d23, d24, d34, d35, d45, short⟩
/-- The stuffs are made anew. -/
theorem DrwAt.stuffs (h : DrwAt W0 Rb a n cap f w Sb X p y a2 a3 a4 a5 c2 c3 c4 c5) (hb : Below X.heap.size X X') {l : List ByteArray} {d : Option Addr} {k : Nat} (ho : OwnL X' 9 1 d l.length (strF l)) (hk : l.length ≤ k) (hat : ∀ q, InSlot d l.length q → InSlot a2 y.stuffs.length q ∨ X.heap.size ≤ q) (hs : ∀ t ∈ l, t.size ≤ 100) :
 DrwAt W0 Rb a n cap f w Sb (X'.setCell ⟨Sb, 2, none⟩ (.slice d l.length k)) p ⟨y.number, y.kind, l, y.uses, y.opens, y.shuts⟩ d a3 a4 a5 k c3 c4 c5 := by
 have hSX : Sb < X.heap.size := h.row.lt
 refine h.put 2 _ (y' := ⟨y.number, y.kind, l, y.uses, y.opens, y.shuts⟩) rfl (Or.inr trivial) (h.row.later hb) (h.rd.later hb) (h.on.trans (Only.of hb)) ho hk (h.s3.later hb) (h.s4.later hb) (h.s5.later hb) (fun q hq => ?_) h.lo5 (fun q hq hq' => ?_) (fun q hq hq' => ?_) h.d34 h.d35 h.d45 ⟨hs, h.short.uses, h.short.opens, h.short.shuts⟩
 · rcases hat q hq with h' | h'
   · exact h.lo2 q h'
   · omega
 · rcases hat q hq with h' | h'
   · exact h.d23 q h' hq'
   · have := h.s3.cap.lt hq'; omega
 · rcases hat q hq with h' | h'
   · exact h.d24 q h' hq'
   · have := h.s4.cap.lt hq'; omega
/-- A use is put behind. -/
theorem DrwAt.use (h : DrwAt W0 Rb a n cap f w Sb X p y a2 a3 a4 a5 c2 c3 c4 c5) {u : Use} {g : Nat → Nat → Value} (hg : ∀ j, j < 3 → g 0 j = useF [u] 0 j) {d : Option Addr} {k : Nat} (ap : Appended 101 3 X X' a3 y.uses.length 1 (useF y.uses) g d k) (hs : u.name.size ≤ 100) :
 DrwAt W0 Rb a n cap f w Sb (X'.setCell ⟨Sb, 3, none⟩ (.slice d (y.uses.length + 1) k)) p ⟨y.number, y.kind, y.stuffs, y.uses ++ [u], y.opens, y.shuts⟩ a2 d a4 a5 c2 k c4 c5 := by
 have hSX : Sb < X.heap.size := h.row.lt
 have hlt : Rb < Sb := by have := h.new; have := h.old; omega
 have hlen : (y.uses ++ [u]).length = y.uses.length + 1 := by simp
 refine h.put 3 _ (y' := ⟨y.number, y.kind, y.stuffs, y.uses ++ [u], y.opens, y.shuts⟩) (by unfold wantCs; rw [hlen]; rfl) (Or.inr trivial) (h.row.only ap.only (fun hq => by have := h.s3.lo _ hq; omega)) (h.rd.only ap.only (fun q hq => by have := h.s3.lo q hq; omega)) (h.on.next ap.only (fun q hq hq' => by have := h.s3.lo q hq; have := h.new; omega))
  (h.s2.only ap.only h.d23) h.k2 (h.s3.snoc (by omega) hg ap) (h.s4.only ap.only (fun q hq hq' => h.d34 q hq' hq)) (h.s5.only ap.only h.d35) h.lo2 h.lo5 (fun q hq hq' => ?_) h.d24 (fun q hq hq' => ?_) (fun q hq hq' => ?_) h.d45 ⟨h.short.stuffs, fun t ht => ?_, h.short.opens, h.short.shuts⟩
 · rcases ap.at_ q hq' with h' | h'
   · exact h.d23 q hq h'
   · have := h.s2.lt hq; omega
 · rcases ap.at_ q hq with h' | h'
   · exact h.d34 q h' hq'
   · have := h.s4.cap.lt hq'; omega
 · rcases ap.at_ q hq' with h' | h'
   · exact h.d35 q hq h'
   · have := h.s5.lt hq; omega
 · rcases List.mem_append.1 ht with h' | h'
   · exact h.short.uses t h'
   · rw [List.mem_singleton.1 h']; exact hs
/-- An open valve is put behind. -/
theorem DrwAt.opens (h : DrwAt W0 Rb a n cap f w Sb X p y a2 a3 a4 a5 c2 c3 c4 c5) {s : ByteArray} {d : Option Addr} {k : Nat} (ap : Appended 9 1 X X' a4 y.opens.length 1 (strF y.opens) (fun _ _ => .string s) d k) (hs : s.size ≤ 100) :
 DrwAt W0 Rb a n cap f w Sb (X'.setCell ⟨Sb, 4, none⟩ (.slice d (y.opens.length + 1) k)) p ⟨y.number, y.kind, y.stuffs, y.uses, y.opens ++ [s], y.shuts⟩ a2 a3 d a5 c2 c3 k c5 := by
 have hSX : Sb < X.heap.size := h.row.lt
 have hlt : Rb < Sb := by have := h.new; have := h.old; omega
 have hlen : (y.opens ++ [s]).length = y.opens.length + 1 := by simp
 refine h.put 4 _ (y' := ⟨y.number, y.kind, y.stuffs, y.uses, y.opens ++ [s], y.shuts⟩) (by unfold wantCs; rw [hlen]; rfl) (Or.inr trivial) (h.row.only ap.only (fun hq => by have := h.s4.lo _ hq; omega)) (h.rd.only ap.only (fun q hq => by have := h.s4.lo q hq; omega)) (h.on.next ap.only (fun q hq hq' => by have := h.s4.lo q hq; have := h.new; omega))
  (h.s2.only ap.only h.d24) h.k2 (h.s3.only ap.only h.d34) (h.s4.snoc (by omega) ap) (h.s5.only ap.only h.d45) h.lo2 h.lo5 h.d23 (fun q hq hq' => ?_) (fun q hq hq' => ?_) h.d35 (fun q hq hq' => ?_) ⟨h.short.stuffs, h.short.uses, fun t ht => ?_, h.short.shuts⟩
 · rcases ap.at_ q hq' with h' | h'
   · exact h.d24 q hq h'
   · have := h.s2.lt hq; omega
 · rcases ap.at_ q hq' with h' | h'
   · exact h.d34 q hq h'
   · have := h.s3.cap.lt hq; omega
 · rcases ap.at_ q hq' with h' | h'
   · exact h.d45 q hq h'
   · have := h.s5.lt hq; omega
 · rcases List.mem_append.1 ht with h' | h'
   · exact h.short.opens t h'
   · rw [List.mem_singleton.1 h']; exact hs
/-- The shut valves are drawn. -/
theorem DrwAt.shuts (h : DrwAt W0 Rb a n cap f w Sb X p y a2 a3 a4 a5 c2 c3 c4 c5) {l : List ByteArray} {d : Option Addr} {k : Nat} (hr : Rd W0 Rb a n cap f X' p') (ho : Only (fun q => q = Rb) X X') (hl : OwS X.heap.size X' l d k) (hs : ∀ t ∈ l, t.size ≤ 100) :
 DrwAt W0 Rb a n cap f w Sb (X'.setCell ⟨Sb, 5, none⟩ (.slice d l.length k)) p' ⟨y.number, y.kind, y.stuffs, y.uses, y.opens, l⟩ a2 a3 a4 d c2 c3 c4 k := by
 have hSX : Sb < X.heap.size := h.row.lt
 have h' := h.pick hr ho
 refine h'.put 5 _ (y' := ⟨y.number, y.kind, y.stuffs, y.uses, y.opens, l⟩) rfl (Or.inr trivial) h'.row hr h'.on h'.s2 h'.k2 h'.s3 h'.s4 hl.own h'.lo2 (fun q hq => ?_) h'.d23 h'.d24 h'.d34 (fun q hq hq' => ?_) (fun q hq hq' => ?_) ⟨h.short.stuffs, h.short.uses, h.short.opens, hs⟩
 · have := hl.lo q hq.2; omega
 · have := hl.lo q hq.2; have := h.s3.cap.lt hq'; omega
 · have := hl.lo q hq.2; have := h.s4.cap.lt hq'; omega
/-- Another block is written. -/
theorem DrwAt.aside (h : DrwAt W0 Rb a n cap f w Sb X p y a2 a3 a4 a5 c2 c3 c4 c5) {U : Nat} (hU : Sb < U) (h2 : ¬ InSlot a2 y.stuffs.length U) (h3 : ¬ InAddr a3 U) (h4 : ¬ InAddr a4 U) (h5 : ¬ InSlot a5 y.shuts.length U) (i : Nat) (v : Value) : DrwAt W0 Rb a n cap f w Sb (X.setCell ⟨U, i, none⟩ v) p y a2 a3 a4 a5 c2 c3 c4 c5 := by
 have oc : Only (fun q => q = U) X (X.setCell ⟨U, i, none⟩ v) := Only.cell _ ⟨U, i, none⟩ _
 have hlt : Rb < Sb := by have := h.new; have := h.old; omega
 exact ⟨h.row.only oc (fun e => by have : Sb = U := e; omega), h.rd.only oc (fun q hq => by have : q = U := hq; omega), h.on.next oc (fun q hq hq' => by have : q = U := hq; have := h.new; omega), h.new, h.old, h.s2.only oc (fun q hq e => by have : q = U := e; subst this; exact h2 hq), h.k2, h.s3.only oc (fun q hq e => by have : q = U := e; subst this; exact h3 hq), h.s4.only oc (fun q hq e => by have : q = U := e; subst this; exact h4 hq), h.s5.only oc (fun q hq e => by have : q = U := e; subst this; exact h5 hq), h.lo2, h.lo5, h.d23, h.d24, h.d34, h.d35, h.d45, h.short⟩
/-- The first stuff, in a new block of its own. -/
theorem DrwAt.first (h : DrwAt W0 Rb a n cap f w Sb X p y a2 a3 a4 a5 c2 c3 c4 c5) {s : ByteArray} (hs : s.size ≤ 100) :
 DrwAt W0 Rb a n cap f w Sb ((X.setCell ⟨Sb, 2, none⟩ (.slice (some ⟨X.heap.size, 0, none⟩) 1 1)).alloc (.cells #[.string s] 9)) p ⟨y.number, y.kind, [s], y.uses, y.opens, y.shuts⟩ (some ⟨X.heap.size, 0, none⟩) a3 a4 a5 1 c3 c4 c5 := by
 have hSX : Sb < X.heap.size := h.row.lt
 have hlt : Rb < Sb := by have := h.new; have := h.old; omega
 have oc : Only (fun q => q = Sb) X (X.setCell ⟨Sb, 2, none⟩ (.slice (some ⟨X.heap.size, 0, none⟩) 1 1)) := Only.cell _ ⟨Sb, 2, none⟩ _
 have sz : (X.setCell ⟨Sb, 2, none⟩ (.slice (some ⟨X.heap.size, 0, none⟩) 1 1)).heap.size = X.heap.size := Go.Deep.nblk_setCell _ _ _
 have b : Below (X.setCell ⟨Sb, 2, none⟩ (.slice (some ⟨X.heap.size, 0, none⟩) 1 1)).heap.size (X.setCell ⟨Sb, 2, none⟩ (.slice (some ⟨X.heap.size, 0, none⟩) 1 1)) ((X.setCell ⟨Sb, 2, none⟩ (.slice (some ⟨X.heap.size, 0, none⟩) 1 1)).alloc (.cells #[.string s] 9)) := (Below.refl _ _).alloc (Nat.le_refl _) _
 have ne2 : ∀ q, InSlot (some ⟨X.heap.size, 0, none⟩) ([s] : List ByteArray).length q → q = X.heap.size := fun q hq => by obtain ⟨_, o, e⟩ := hq; cases e; rfl
 refine ⟨(h.row.set 2 _).later b, (h.rd.only oc (fun q hq => by have : q = Sb := hq; omega)).later b, (h.on.next oc (fun q hq hq' => by have : q = Sb := hq; have := h.new; omega)).trans (Only.of b), h.new, h.old, ?_, Nat.le_refl _,
  (h.s3.only oc (fun q hq e => by have := h.s3.lo q hq; have : q = Sb := e; omega)).later b, (h.s4.only oc (fun q hq e => by have := h.s4.lo q hq; have : q = Sb := e; omega)).later b, (h.s5.only oc (fun q hq e => by have := h.lo5 q hq; have : q = Sb := e; omega)).later b, fun q hq => ?_, h.lo5, fun q hq hq' => ?_, fun q hq hq' => ?_, h.d34, h.d35, h.d45, ⟨fun t ht => ?_, h.short.uses, h.short.opens, h.short.shuts⟩⟩
 · exact Or.inr ⟨X.heap.size, [.string s], rfl, Row.new' sz.symm, by simp, fun k hk j hj => by
    have e1 : k = 0 := by simp at hk; exact hk
    have e2 : j = 0 := by omega
    subst e1; subst e2; rfl⟩
 · have := ne2 q hq; omega
 · have := ne2 q hq; have := h.s3.cap.lt hq'; omega
 · have := ne2 q hq; have := h.s4.cap.lt hq'; omega
 · rw [List.mem_singleton.1 ht]; exact hs
/-- A want of which nothing was drawn but its number and kind. -/
theorem DrwAt.start (hr : Rd W0 Rb a n cap f X p) (on : Only (fun q => q = Rb) w X) (old : Rb < w.heap.size) (s kd : Int) :
 DrwAt W0 Rb a n cap f w X.heap.size (X.alloc (.cells #[.int .i64 s, .int .i64 kd, .slice none 0 0, .slice none 0 0, .slice none 0 0, .slice none 0 0] 38)) p ⟨s, kd, [], [], [], []⟩ none none none none 0 0 0 0 := by
 have b : Below X.heap.size X (X.alloc (.cells #[.int .i64 s, .int .i64 kd, .slice none 0 0, .slice none 0 0, .slice none 0 0, .slice none 0 0] 38)) := (Below.refl _ _).alloc (Nat.le_refl _) _
 have no : ∀ (P : Prop) (q : Nat), InAddr none q → P := fun P q ⟨o, e⟩ => by cases e
 exact ⟨Row.new _ _ _, hr.later b, on.trans (Only.of b), on.size, old, ownL_zero _ _ _ _ _, Nat.le_refl _, ⟨ownL_zero _ _ _ _ _, capOf_nil _ _ _, fun q hq => no _ q hq⟩, ⟨ownL_zero _ _ _ _ _, capOf_nil _ _ _, fun q hq => no _ q hq⟩, ownL_zero _ _ _ _ _,
  fun q hq => absurd rfl hq.1, fun q hq => absurd rfl hq.1, fun q hq => absurd rfl hq.1, fun q hq => absurd rfl hq.1, fun q hq => no _ q hq, fun q hq => absurd rfl hq.1, fun q hq => absurd rfl hq.1, ⟨fun t ht => (by cases ht), fun t ht => (by cases ht), fun t ht => (by cases ht), fun t ht => (by cases ht)⟩⟩
/-- What is answered of it. -/
theorem DrwAt.dr (h : DrwAt W0 Rb a n cap f w Sb X p y a2 a3 a4 a5 c2 c3 c4 c5) : DrW (Sb + 1) X y a2 a3 a4 a5 :=
 ⟨⟨h.s2.rowAt, h.s3.own.rowAt, h.s4.own.rowAt, h.s5.rowAt⟩, fun q hq => h.lo2 q hq, fun q hq => h.s3.lo q hq.2, fun q hq => h.s4.lo q hq.2, fun q hq => h.lo5 q hq⟩
end
/-- A use in a block of its own, as a list. -/
theorem use_row {W : World} {b : Nat} {u : Use} (h : Row W b 101 [.string u.name, .int .i64 u.role, .int .i64 u.amount]) : RowAt W (some ⟨b, 0, none⟩) 1 3 (useF [u]) := by
 intro k hk
 have : k = 0 := by omega
 subst this
 refine ⟨_, _, rfl, h.lt, fun j hj => ?_⟩
 match j, hj with
 | 0, _ => exact h.cell 0 rfl
 | 1, _ => exact h.cell 1 rfl
 | 2, _ => exact h.cell 2 rfl
/-- A drawn want is answered, in memory from B on; the reader has gone on by d places at most. -/
def WantOf (W0 : World) (Rb : Nat) (a : Option Addr) (n cap : Nat) (f : Nat → Nat) (N B : Nat) (p d : Int) (e : Ending) (w' : World) : Prop :=
 ∃ (y : Want) (a2 a3 a4 a5 : Option Addr) (c2 c3 c4 c5 : Nat) (p' : Int), e = .returned (wantW y a2 a3 a4 a5 c2 c3 c4 c5) ∧ DrW B w' y a2 a3 a4 a5 ∧ ShortW y ∧ RoomW N y ∧ p ≤ p' ∧ p' ≤ p + d ∧ Rd W0 Rb a n cap f w' p'

end Go.Proofs.YtfmhkicncgccjaaGreat

/- A copy of a want that is being spoilt: its variable, its lists and the reader; plain: what each change leaves of it. -/
namespace Go.Proofs.YtfmhkicncgccjaaGreat
open Go.RowKit Go.Sort
set_option linter.unusedSimpArgs false
set_option linter.unusedVariables false

/-- A copy of a want, in the block Sb. -/
structure SpAt (W0 : World) (Rb : Nat) (a : Option Addr) (n cap : Nat) (f : Nat → Nat) (w : World) (Sb : Nat) (X : World) (p : Int) (y : Want) (a2 a3 a4 a5 : Option Addr) (c2 c3 c4 c5 : Nat) : Prop where
 row : Row X Sb 38 (wantCs y a2 a3 a4 a5 c2 c3 c4 c5)
 rd : Rd W0 Rb a n cap f X p
 on : Only (fun q => q = Rb) w X
 new : w.heap.size ≤ Sb
 old : Rb < w.heap.size
 own : OwW w.heap.size X y a2 a3 a4 a5 c2 c3 c4 c5
 n2 : ¬ InAddr a2 Sb
 n3 : ¬ InAddr a3 Sb
 n4 : ¬ InAddr a4 Sb
 n5 : ¬ InAddr a5 Sb
 short : ShortW y
/-- A want that is done, in the block Sb. -/
structure FnAt (W0 : World) (Rb : Nat) (a : Option Addr) (n cap : Nat) (f : Nat → Nat) (w : World) (Sb : Nat) (X : World) (p : Int) (y : Want) (a2 a3 a4 a5 : Option Addr) (c2 c3 c4 c5 : Nat) : Prop where
 row : Row X Sb 38 (wantCs y a2 a3 a4 a5 c2 c3 c4 c5)
 rd : Rd W0 Rb a n cap f X p
 on : Only (fun q => q = Rb) w X
 dr : DrW w.heap.size X y a2 a3 a4 a5
 short : ShortW y

section
variable {W0 : World} {Rb : Nat} {a : Option Addr} {n cap : Nat} {f : Nat → Nat} {w : World} {Sb : Nat} {X X' : World} {p p' : Int} {y : Want} {a2 a3 a4 a5 : Option Addr} {c2 c3 c4 c5 : Nat}
theorem SpAt.start (hr : Rd W0 Rb a n cap f X p) (on : Only (fun q => q = Rb) w X) (old : Rb < w.heap.size) (own : OwW w.heap.size X y a2 a3 a4 a5 c2 c3 c4 c5) (short : ShortW y) :
 SpAt W0 Rb a n cap f w X.heap.size (X.alloc (.cells #[.int .i64 y.number, .int .i64 y.kind, .slice a2 y.stuffs.length c2, .slice a3 y.uses.length c3, .slice a4 y.opens.length c4, .slice a5 y.shuts.length c5] 38)) p y a2 a3 a4 a5 c2 c3 c4 c5 := by
 have b : Below X.heap.size X (X.alloc (.cells #[.int .i64 y.number, .int .i64 y.kind, .slice a2 y.stuffs.length c2, .slice a3 y.uses.length c3, .slice a4 y.opens.length c4, .slice a5 y.shuts.length c5] 38)) := (Below.refl _ _).alloc (Nat.le_refl _) _
 exact ⟨Row.new _ _ _, hr.later b, on.trans (Only.of b), on.size, old, own.later b, fun h => by have := own.l2.cap.lt h; omega, fun h => by have := own.l3.cap.lt h; omega, fun h => by have := own.l4.cap.lt h; omega, fun h => by have := own.l5.cap.lt h; omega, short⟩
theorem SpAt.pick (h : SpAt W0 Rb a n cap f w Sb X p y a2 a3 a4 a5 c2 c3 c4 c5) (hr : Rd W0 Rb a n cap f X' p') (ho : Only (fun q => q = Rb) X X') : SpAt W0 Rb a n cap f w Sb X' p' y a2 a3 a4 a5 c2 c3 c4 c5 :=
 have hlt : Rb < Sb := by have := h.new; have := h.old; omega
 ⟨h.row.only ho (by omega), hr, h.on.trans ho, h.new, h.old, h.own.only ho (fun q hq => by have : q = Rb := hq; have := h.old; omega), h.n2, h.n3, h.n4, h.n5, h.short⟩
theorem SpAt.later (h : SpAt W0 Rb a n cap f w Sb X p y a2 a3 a4 a5 c2 c3 c4 c5) (hb : Below X.heap.size X X') : SpAt W0 Rb a n cap f w Sb X' p y a2 a3 a4 a5 c2 c3 c4 c5 :=
 ⟨h.row.later hb, h.rd.later hb, h.on.trans (Only.of hb), h.new, h.old, h.own.later hb, h.n2, h.n3, h.n4, h.n5, h.short⟩
theorem SpAt.done (h : SpAt W0 Rb a n cap f w Sb X p y a2 a3 a4 a5 c2 c3 c4 c5) : FnAt W0 Rb a n cap f w Sb X p y a2 a3 a4 a5 c2 c3 c4 c5 := ⟨h.row, h.rd, h.on, h.own.dr, h.short⟩
/-- A field of the variable is written; the lists are told anew. -/
theorem SpAt.fin (h : SpAt W0 Rb a n cap f w Sb X p y a2 a3 a4 a5 c2 c3 c4 c5) (i : Nat) (v : Value) {y' : Want} {a2' a3' a4' a5' : Option Addr} {c2' c3' c4' c5' : Nat} (e : (wantCs y a2 a3 a4 a5 c2 c3 c4 c5).set i v = wantCs y' a2' a3' a4' a5' c2' c3' c4' c5')
 (hr : Row X' Sb 38 (wantCs y a2 a3 a4 a5 c2 c3 c4 c5)) (hrd : Rd W0 Rb a n cap f X' p') (hon : Only (fun q => q = Rb) w X') (dr : DrW w.heap.size X' y' a2' a3' a4' a5')
 (n2 : ¬ InSlot a2' y'.stuffs.length Sb) (n3 : ¬ InSlot a3' y'.uses.length Sb) (n4 : ¬ InSlot a4' y'.opens.length Sb) (n5 : ¬ InSlot a5' y'.shuts.length Sb) (short : ShortW y') :
 FnAt W0 Rb a n cap f w Sb (X'.setCell ⟨Sb, i, none⟩ v) p' y' a2' a3' a4' a5' c2' c3' c4' c5' := by
 have oc : Only (fun q => q = Sb) X' (X'.setCell ⟨Sb, i, none⟩ v) := Only.cell _ ⟨Sb, i, none⟩ _
 have hlt : Rb < Sb := by have := h.new; have := h.old; omega
 have ne : ∀ {P : Nat → Prop}, ¬ P Sb → ∀ q, P q → ¬ q = Sb := fun hn q hq e => hn (e ▸ hq)
 exact ⟨by rw [← e]; exact hr.set i v, hrd.only oc (fun q hq => by have : q = Sb := hq; omega), hon.next oc (fun q hq hq' => by have : q = Sb := hq; have := h.new; omega),
  ⟨⟨RowAt.only dr.in_.stuffs oc (ne n2), RowAt.only dr.in_.uses oc (ne n3), RowAt.only dr.in_.opens oc (ne n4), RowAt.only dr.in_.shuts oc (ne n5)⟩, dr.f2, dr.f3, dr.f4, dr.f5⟩, short⟩
theorem SpAt.number (h : SpAt W0 Rb a n cap f w Sb X p y a2 a3 a4 a5 c2 c3 c4 c5) (v : Int) : FnAt W0 Rb a n cap f w Sb (X.setCell ⟨Sb, 0, none⟩ (.int .i64 v)) p ⟨v, y.kind, y.stuffs, y.uses, y.opens, y.shuts⟩ a2 a3 a4 a5 c2 c3 c4 c5 :=
 h.fin 0 _ (y' := ⟨v, y.kind, y.stuffs, y.uses, y.opens, y.shuts⟩) rfl h.row h.rd h.on ⟨⟨h.own.dr.in_.stuffs, h.own.dr.in_.uses, h.own.dr.in_.opens, h.own.dr.in_.shuts⟩, h.own.dr.f2, h.own.dr.f3, h.own.dr.f4, h.own.dr.f5⟩ (fun q => h.n2 q.2) (fun q => h.n3 q.2) (fun q => h.n4 q.2) (fun q => h.n5 q.2) ⟨h.short.stuffs, h.short.uses, h.short.opens, h.short.shuts⟩
theorem SpAt.kind (h : SpAt W0 Rb a n cap f w Sb X p y a2 a3 a4 a5 c2 c3 c4 c5) (v : Int) : FnAt W0 Rb a n cap f w Sb (X.setCell ⟨Sb, 1, none⟩ (.int .i64 v)) p ⟨y.number, v, y.stuffs, y.uses, y.opens, y.shuts⟩ a2 a3 a4 a5 c2 c3 c4 c5 :=
 h.fin 1 _ (y' := ⟨y.number, v, y.stuffs, y.uses, y.opens, y.shuts⟩) rfl h.row h.rd h.on ⟨⟨h.own.dr.in_.stuffs, h.own.dr.in_.uses, h.own.dr.in_.opens, h.own.dr.in_.shuts⟩, h.own.dr.f2, h.own.dr.f3, h.own.dr.f4, h.own.dr.f5⟩ (fun q => h.n2 q.2) (fun q => h.n3 q.2) (fun q => h.n4 q.2) (fun q => h.n5 q.2) ⟨h.short.stuffs, h.short.uses, h.short.opens, h.short.shuts⟩
/-- The stuffs are another list, new, in a block that is not the variable's. -/
theorem SpAt.stuffs (h : SpAt W0 Rb a n cap f w Sb X p y a2 a3 a4 a5 c2 c3 c4 c5) {l : List ByteArray} {b k : Nat} (hs : StrsAt X (some ⟨b, 0, none⟩) l) (hb : Sb < b) (hsh : ∀ t ∈ l, t.size ≤ 100) : FnAt W0 Rb a n cap f w Sb (X.setCell ⟨Sb, 2, none⟩ (.slice (some ⟨b, 0, none⟩) l.length k)) p ⟨y.number, y.kind, l, y.uses, y.opens, y.shuts⟩ (some ⟨b, 0, none⟩) a3 a4 a5 k c3 c4 c5 := by
 have hn := h.new
 have e : ∀ q, InSlot (some ⟨b, 0, none⟩) l.length q → q = b := fun q hq => by obtain ⟨_, o, e⟩ := hq; cases e; rfl
 exact h.fin 2 _ (y' := ⟨y.number, y.kind, l, y.uses, y.opens, y.shuts⟩) rfl h.row h.rd h.on ⟨⟨hs, h.own.dr.in_.uses, h.own.dr.in_.opens, h.own.dr.in_.shuts⟩, fun q hq => by have := e q hq; omega, h.own.dr.f3, h.own.dr.f4, h.own.dr.f5⟩ (fun q => by have := e _ q; omega) (fun q => h.n3 q.2) (fun q => h.n4 q.2) (fun q => h.n5 q.2) ⟨hsh, h.short.uses, h.short.opens, h.short.shuts⟩
/-- A use is put behind. -/
theorem SpAt.use (h : SpAt W0 Rb a n cap f w Sb X p y a2 a3 a4 a5 c2 c3 c4 c5) {u : Use} {g : Nat → Nat → Value} (hg : ∀ j, j < 3 → g 0 j = useF [u] 0 j) {d : Option Addr} {k : Nat} (ap : Appended 101 3 X X' a3 y.uses.length 1 (useF y.uses) g d k) (hs : u.name.size ≤ 100) :
 FnAt W0 Rb a n cap f w Sb (X'.setCell ⟨Sb, 3, none⟩ (.slice d (y.uses.length + 1) k)) p ⟨y.number, y.kind, y.stuffs, y.uses ++ [u], y.opens, y.shuts⟩ a2 d a4 a5 c2 k c4 c5 := by
 have hSX : Sb < X.heap.size := h.row.lt
 have hold := h.old
 have hlen : (y.uses ++ [u]).length = y.uses.length + 1 := by simp
 have sn := h.own.l3.snoc h.on.size hg ap
 refine h.fin 3 _ (y' := ⟨y.number, y.kind, y.stuffs, y.uses ++ [u], y.opens, y.shuts⟩) (by unfold wantCs; rw [hlen]; rfl) (h.row.only ap.only h.n3) (h.rd.only ap.only (fun q hq => by have := h.own.l3.lo q hq; omega)) (h.on.next ap.only (fun q hq hq' => by have := h.own.l3.lo q hq; omega))
  ⟨⟨(h.own.l2.only ap.only (fun q hq hq' => h.own.d23 q hq hq')).own.rowAt, sn.own.rowAt, (h.own.l4.only ap.only (fun q hq hq' => h.own.d34 q hq' hq)).own.rowAt, (h.own.l5.only ap.only (fun q hq hq' => h.own.d35 q hq' hq)).own.rowAt⟩, h.own.dr.f2, fun q hq => sn.lo q hq.2, h.own.dr.f4, h.own.dr.f5⟩ (fun q => h.n2 q.2) (fun q => ?_) (fun q => h.n4 q.2) (fun q => h.n5 q.2) ⟨h.short.stuffs, fun t ht => ?_, h.short.opens, h.short.shuts⟩
 · rcases ap.at_ _ q.2 with h' | h'
   · exact h.n3 h'
   · omega
 · rcases List.mem_append.1 ht with h' | h'
   · exact h.short.uses t h'
   · rw [List.mem_singleton.1 h']; exact hs
/-- An open valve is put behind. -/
theorem SpAt.opens (h : SpAt W0 Rb a n cap f w Sb X p y a2 a3 a4 a5 c2 c3 c4 c5) {s : ByteArray} {d : Option Addr} {k : Nat} (ap : Appended 9 1 X X' a4 y.opens.length 1 (strF y.opens) (fun _ _ => .string s) d k) (hs : s.size ≤ 100) :
 FnAt W0 Rb a n cap f w Sb (X'.setCell ⟨Sb, 4, none⟩ (.slice d (y.opens.length + 1) k)) p ⟨y.number, y.kind, y.stuffs, y.uses, y.opens ++ [s], y.shuts⟩ a2 a3 d a5 c2 c3 k c5 := by
 have hSX : Sb < X.heap.size := h.row.lt
 have hold := h.old
 have hlen : (y.opens ++ [s]).length = y.opens.length + 1 := by simp
 have sn := h.own.l4.snoc h.on.size ap
 refine h.fin 4 _ (y' := ⟨y.number, y.kind, y.stuffs, y.uses, y.opens ++ [s], y.shuts⟩) (by unfold wantCs; rw [hlen]; rfl) (h.row.only ap.only h.n4) (h.rd.only ap.only (fun q hq => by have := h.own.l4.lo q hq; omega)) (h.on.next ap.only (fun q hq hq' => by have := h.own.l4.lo q hq; omega))
  ⟨⟨(h.own.l2.only ap.only (fun q hq hq' => h.own.d24 q hq hq')).own.rowAt, (h.own.l3.only ap.only (fun q hq hq' => h.own.d34 q hq hq')).own.rowAt, sn.own.rowAt, (h.own.l5.only ap.only (fun q hq hq' => h.own.d45 q hq' hq)).own.rowAt⟩, h.own.dr.f2, h.own.dr.f3, fun q hq => sn.lo q hq.2, h.own.dr.f5⟩ (fun q => h.n2 q.2) (fun q => h.n3 q.2) (fun q => ?_) (fun q => h.n5 q.2) ⟨h.short.stuffs, h.short.uses, fun t ht => ?_, h.short.shuts⟩
 · rcases ap.at_ _ q.2 with h' | h'
   · exact h.n4 h'
   · omega
 · rcases List.mem_append.1 ht with h' | h'
   · exact h.short.opens t h'
   · rw [List.mem_singleton.1 h']; exact hs
/-- A shut valve is put behind; it goes on. -/
theorem SpAt.shuts (h : SpAt W0 Rb a n cap f w Sb X p y a2 a3 a4 a5 c2 c3 c4 c5) {s : ByteArray} {d : Option Addr} {k : Nat} (ap : Appended 9 1 X X' a5 y.shuts.length 1 (strF y.shuts) (fun _ _ => .string s) d k) (hs : s.size ≤ 100) :
 SpAt W0 Rb a n cap f w Sb (X'.setCell ⟨Sb, 5, none⟩ (.slice d (y.shuts.length + 1) k)) p ⟨y.number, y.kind, y.stuffs, y.uses, y.opens, y.shuts ++ [s]⟩ a2 a3 a4 d c2 c3 c4 k := by
 have hSX : Sb < X.heap.size := h.row.lt
 have hold := h.old
 have hnew := h.new
 have hlt : Rb < Sb := by omega
 have hlen : (y.shuts ++ [s]).length = y.shuts.length + 1 := by simp
 have sn := h.own.l5.snoc h.on.size ap
 have oc : Only (fun q => q = Sb) X' (X'.setCell ⟨Sb, 5, none⟩ (.slice d (y.shuts.length + 1) k)) := Only.cell _ ⟨Sb, 5, none⟩ _
 have ne : ∀ {P : Nat → Prop}, ¬ P Sb → ∀ q, P q → ¬ q = Sb := fun hn q hq e => hn (e ▸ hq)
 have n5' : ¬ InAddr d Sb := fun q => (ap.at_ _ q).elim h.n5 (fun e => by omega)
 have far : ∀ {P : Nat → Prop}, (∀ q, P q → ¬ InAddr a5 q) → (∀ q, P q → q < X.heap.size) → ∀ q, P q → ¬ InAddr d q := fun h1 h2 q hq hq' => (ap.at_ q hq').elim (h1 q hq) (fun e => by have := h2 q hq; omega)
 refine ⟨?_, (h.rd.only ap.only (fun q hq => by have := h.own.l5.lo q hq; omega)).only oc (fun q hq => by have : q = Sb := hq; omega), (h.on.next ap.only (fun q hq hq' => by have := h.own.l5.lo q hq; omega)).next oc (fun q hq hq' => by have : q = Sb := hq; omega), h.new, h.old,
  ⟨(h.own.l2.only ap.only (fun q hq hq' => h.own.d25 q hq hq')).only oc (ne h.n2), (h.own.l3.only ap.only (fun q hq hq' => h.own.d35 q hq hq')).only oc (ne h.n3), (h.own.l4.only ap.only (fun q hq hq' => h.own.d45 q hq hq')).only oc (ne h.n4), sn.only oc (ne n5'), h.own.d23, h.own.d24, far h.own.d25 (fun q hq => h.own.l2.cap.lt hq), h.own.d34, far h.own.d35 (fun q hq => h.own.l3.cap.lt hq), far h.own.d45 (fun q hq => h.own.l4.cap.lt hq)⟩,
  h.n2, h.n3, h.n4, n5', ⟨h.short.stuffs, h.short.uses, h.short.opens, fun t ht => ?_⟩⟩
 · have := (h.row.only ap.only h.n5).set 5 (.slice d (y.shuts.length + 1) k)
   unfold wantCs
   rw [hlen]
   exact this
 · rcases List.mem_append.1 ht with h' | h'
   · exact h.short.shuts t h'
   · rw [List.mem_singleton.1 h']; exact hs
/-- An amount is written. -/
theorem SpAt.amount (h : SpAt W0 Rb a n cap f w Sb X p y a2 a3 a4 a5 c2 c3 c4 c5) {b j : Nat} (ha : a3 = some ⟨b, 0, none⟩) (hj : j < y.uses.length) (v : Int) :
 FnAt W0 Rb a n cap f w Sb (X.setCell ⟨b, j * 3 + 2, none⟩ (.int .i64 v)) p ⟨y.number, y.kind, y.stuffs, y.uses.set j ⟨(gu y.uses j).name, (gu y.uses j).role, v⟩, y.opens, y.shuts⟩ a2 a3 a4 a5 c2 c3 c4 c5 := by
 have hold := h.old
 have oc : Only (fun q => q = b) X (X.setCell ⟨b, j * 3 + 2, none⟩ (.int .i64 v)) := Only.cell _ ⟨b, j * 3 + 2, none⟩ _
 have ib : InAddr a3 b := ⟨0, ha⟩
 have hb := h.own.l3.lo b ib
 have ne : ∀ {P : Nat → Prop}, (∀ q, P q → ¬ InAddr a3 q) → ∀ q, P q → ¬ q = b := fun h1 q hq e => h1 q hq (e ▸ ib)
 have hlen : (y.uses.set j ⟨(gu y.uses j).name, (gu y.uses j).role, v⟩).length = y.uses.length := by simp
 refine ⟨?_, h.rd.only oc (fun q hq => by have : q = b := hq; omega), h.on.next oc (fun q hq hq' => by have : q = b := hq; omega),
  ⟨⟨(h.own.l2.only oc (ne h.own.d23)).own.rowAt, ?_, (h.own.l4.only oc (ne (fun q hq hq' => h.own.d34 q hq' hq))).own.rowAt, (h.own.l5.only oc (ne (fun q hq hq' => h.own.d35 q hq' hq))).own.rowAt⟩, h.own.dr.f2, fun q hq => h.own.l3.lo q hq.2, h.own.dr.f4, h.own.dr.f5⟩, ⟨h.short.stuffs, fun t ht => ?_, h.short.opens, h.short.shuts⟩⟩
 · have := h.row.only oc (fun e => h.n3 (by have e' : Sb = b := e; rw [e']; exact ib))
   unfold wantCs
   rw [hlen]
   exact this
 · show UsesAt _ a3 (y.uses.set j _)
   intro k hk
   rw [hlen] at hk
   rcases h.own.l3.own with h0 | ⟨b', l, hb', hr, hl, hc⟩
   · omega
   · rw [ha] at hb'
     cases hb'
     refine ⟨b, 0, ha, (hr.set (j * 3 + 2) (.int .i64 v)).lt, fun c hcc => ?_⟩
     rw [Nat.zero_add]
     refine (hr.set (j * 3 + 2) (.int .i64 v)).cell (k * 3 + c) ?_
     have hg : gu (y.uses.set j ⟨(gu y.uses j).name, (gu y.uses j).role, v⟩) k = if k = j then ⟨(gu y.uses j).name, (gu y.uses j).role, v⟩ else gu y.uses k := by
      unfold gu
      rw [List.getD_eq_getElem?_getD, List.getElem?_set]
      by_cases e : j = k
      · subst e; simp [hj]
      · rw [if_neg e, if_neg (fun h => e h.symm), List.getD_eq_getElem?_getD]
     rw [List.getElem?_set]
     have hck := hc k hk c hcc
     by_cases e : j * 3 + 2 = k * 3 + c
     · have e1 : k = j := by omega
       have e2 : c = 2 := by omega
       subst e1; subst e2
       rw [if_pos rfl, if_pos (by omega)]
       show _ = some (useCell (gu _ _) 2)
       rw [hg, if_pos rfl]
       rfl
     · rw [if_neg e, hck]
       show some (useCell (gu y.uses k) c) = some (useCell _ c)
       rw [hg]
       by_cases e1 : k = j
       · subst e1
         rw [if_pos rfl]
         match c, hcc with
         | 0, _ => rfl
         | 1, _ => rfl
         | 2, _ => omega
       · rw [if_neg e1]
 · obtain ⟨i, hi, rfl⟩ := List.mem_iff_getElem.1 ht
   rw [List.getElem_set]
   split
   · show (gu y.uses j).name.size ≤ 100
     exact h.short.uses _ (by unfold gu; rw [List.getD_eq_getElem?_getD, List.getElem?_eq_getElem hj]; exact List.getElem_mem _)
   · exact h.short.uses _ (List.getElem_mem _)
end

end Go.Proofs.YtfmhkicncgccjaaGreat

/- A want in a variable; plain: what a write leaves of it. -/
namespace Go.Proofs.YtfmhkicncgccjaaGreat
open Go.RowKit Go.Sort
set_option linter.unusedSimpArgs false
set_option linter.unusedVariables false

/-- A block of a want's lists. -/
def WIn (y : Want) (a2 a3 a4 a5 : Option Addr) (q : Nat) : Prop := InSlot a2 y.stuffs.length q ∨ InSlot a3 y.uses.length q ∨ InSlot a4 y.opens.length q ∨ InSlot a5 y.shuts.length q
theorem RowAt.lt {w : World} {a : Option Addr} {n s : Nat} {f : Nat → Nat → Value} (h : RowAt w a n s f) {q : Nat} (hq : InSlot a n q) : q < w.heap.size := by
 obtain ⟨hn, o, e⟩ := hq
 obtain ⟨b, o', e', hb, -⟩ := h 0 (by omega)
 rw [e] at e'
 cases e'
 exact hb
theorem DrW.lt {B : Nat} {w : World} {y : Want} {a2 a3 a4 a5 : Option Addr} (h : DrW B w y a2 a3 a4 a5) {q : Nat} (hq : WIn y a2 a3 a4 a5 q) : q < w.heap.size := by
 rcases hq with hq | hq | hq | hq
 · exact RowAt.lt h.in_.stuffs hq
 · exact RowAt.lt h.in_.uses hq
 · exact RowAt.lt h.in_.opens hq
 · exact RowAt.lt h.in_.shuts hq
theorem DrW.ge {B : Nat} {w : World} {y : Want} {a2 a3 a4 a5 : Option Addr} (h : DrW B w y a2 a3 a4 a5) {q : Nat} (hq : WIn y a2 a3 a4 a5 q) : B ≤ q := by
 rcases hq with hq | hq | hq | hq
 · exact h.f2 q hq
 · exact h.f3 q hq
 · exact h.f4 q hq
 · exact h.f5 q hq
theorem DrW.only {B : Nat} {D : Nat → Prop} {w w' : World} {y : Want} {a2 a3 a4 a5 : Option Addr} (h : DrW B w y a2 a3 a4 a5) (ho : Only D w w') (hd : ∀ q, WIn y a2 a3 a4 a5 q → ¬ D q) : DrW B w' y a2 a3 a4 a5 :=
 ⟨⟨RowAt.only h.in_.stuffs ho (fun q hq => hd q (Or.inl hq)), RowAt.only h.in_.uses ho (fun q hq => hd q (Or.inr (Or.inl hq))), RowAt.only h.in_.opens ho (fun q hq => hd q (Or.inr (Or.inr (Or.inl hq)))), RowAt.only h.in_.shuts ho (fun q hq => hd q (Or.inr (Or.inr (Or.inr hq))))⟩, h.f2, h.f3, h.f4, h.f5⟩
theorem drW_nil (B : Nat) (w : World) (n k : Int) : DrW B w ⟨n, k, [], [], [], []⟩ none none none none :=
 ⟨⟨fun k hk => absurd hk (Nat.not_lt_zero _), fun k hk => absurd hk (Nat.not_lt_zero _), fun k hk => absurd hk (Nat.not_lt_zero _), fun k hk => absurd hk (Nat.not_lt_zero _)⟩, From.zero _ _, From.zero _ _, From.zero _ _, From.zero _ _⟩
theorem shortW_nil (n k : Int) : ShortW ⟨n, k, [], [], [], []⟩ := ⟨fun t ht => (by cases ht), fun t ht => (by cases ht), fun t ht => (by cases ht), fun t ht => (by cases ht)⟩
/-- A want in the variable Sb. -/
structure WvAt (W0 : World) (Rb : Nat) (a : Option Addr) (n cap : Nat) (f : Nat → Nat) (w : World) (Sb : Nat) (X : World) (p : Int) (y : Want) (a2 a3 a4 a5 : Option Addr) (c2 c3 c4 c5 : Nat) : Prop where
 row : Row X Sb 38 (wantCs y a2 a3 a4 a5 c2 c3 c4 c5)
 rd : Rd W0 Rb a n cap f X p
 on : Only (fun q => q = Rb) w X
 new : w.heap.size ≤ Sb
 old : Rb < w.heap.size
 dr : DrW w.heap.size X y a2 a3 a4 a5
 ap : ∀ q, WIn y a2 a3 a4 a5 q → q ≠ Sb
 short : ShortW y
section
variable {W0 : World} {Rb : Nat} {a : Option Addr} {n cap : Nat} {f : Nat → Nat} {w : World} {Sb : Nat} {X X' : World} {p p' : Int} {y y' : Want} {a2 a3 a4 a5 a2' a3' a4' a5' : Option Addr} {c2 c3 c4 c5 c2' c3' c4' c5' : Nat}
theorem WvAt.pick (h : WvAt W0 Rb a n cap f w Sb X p y a2 a3 a4 a5 c2 c3 c4 c5) (hr : Rd W0 Rb a n cap f X' p') (ho : Only (fun q => q = Rb) X X') : WvAt W0 Rb a n cap f w Sb X' p' y a2 a3 a4 a5 c2 c3 c4 c5 :=
 have hold := h.old
 have hnew := h.new
 ⟨h.row.only ho (by omega), hr, h.on.trans ho, h.new, h.old, h.dr.only ho (fun q hq e => by have := h.dr.ge hq; have : q = Rb := e; omega), h.ap, h.short⟩
theorem WvAt.later (h : WvAt W0 Rb a n cap f w Sb X p y a2 a3 a4 a5 c2 c3 c4 c5) (hb : Below X.heap.size X X') : WvAt W0 Rb a n cap f w Sb X' p y a2 a3 a4 a5 c2 c3 c4 c5 :=
 h.pick (h.rd.later hb) (Only.of hb)
/-- A want is made a variable. -/
theorem WvAt.make (hr : Rd W0 Rb a n cap f X p) (on : Only (fun q => q = Rb) w X) (old : Rb < w.heap.size) (dr : DrW w.heap.size X y a2 a3 a4 a5) (short : ShortW y) :
 WvAt W0 Rb a n cap f w X.heap.size (X.alloc (.cells #[.int .i64 y.number, .int .i64 y.kind, .slice a2 y.stuffs.length c2, .slice a3 y.uses.length c3, .slice a4 y.opens.length c4, .slice a5 y.shuts.length c5] 38)) p y a2 a3 a4 a5 c2 c3 c4 c5 := by
 have b : Below X.heap.size X (X.alloc (.cells #[.int .i64 y.number, .int .i64 y.kind, .slice a2 y.stuffs.length c2, .slice a3 y.uses.length c3, .slice a4 y.opens.length c4, .slice a5 y.shuts.length c5] 38)) := (Below.refl _ _).alloc (Nat.le_refl _) _
 exact ⟨Row.new _ _ _, hr.later b, on.trans (Only.of b), on.size, old, dr.later b, fun q hq e => by have := dr.lt hq; omega, short⟩
/-- The number is written. -/
theorem WvAt.number (h : WvAt W0 Rb a n cap f w Sb X p y a2 a3 a4 a5 c2 c3 c4 c5) (v : Int) : WvAt W0 Rb a n cap f w Sb (X.setCell ⟨Sb, 0, none⟩ (.int .i64 v)) p ⟨v, y.kind, y.stuffs, y.uses, y.opens, y.shuts⟩ a2 a3 a4 a5 c2 c3 c4 c5 := by
 have oc : Only (fun q => q = Sb) X (X.setCell ⟨Sb, 0, none⟩ (.int .i64 v)) := Only.cell _ ⟨Sb, 0, none⟩ _
 have hold := h.old
 have hnew := h.new
 have d := h.dr.only oc h.ap
 exact ⟨h.row.set 0 _, h.rd.only oc (fun q hq => by have : q = Sb := hq; omega), h.on.next oc (fun q hq hq' => by have : q = Sb := hq; omega), h.new, h.old, ⟨⟨d.in_.stuffs, d.in_.uses, d.in_.opens, d.in_.shuts⟩, d.f2, d.f3, d.f4, d.f5⟩, fun q hq => h.ap q hq, ⟨h.short.stuffs, h.short.uses, h.short.opens, h.short.shuts⟩⟩
/-- The six cells are written. -/
def set6 (X : World) (Sb : Nat) (v0 v1 v2 v3 v4 v5 : Value) : World := (((((X.setCell ⟨Sb, 0, none⟩ v0).setCell ⟨Sb, 1, none⟩ v1).setCell ⟨Sb, 2, none⟩ v2).setCell ⟨Sb, 3, none⟩ v3).setCell ⟨Sb, 4, none⟩ v4).setCell ⟨Sb, 5, none⟩ v5
theorem set6_only (X : World) (Sb : Nat) (v0 v1 v2 v3 v4 v5 : Value) : Only (fun q => q = Sb) X (set6 X Sb v0 v1 v2 v3 v4 v5) :=
 ((((((Only.refl (fun q => q = Sb) X).set (b := Sb) rfl 0 v0).set rfl 1 v1).set rfl 2 v2).set rfl 3 v3).set rfl 4 v4).set rfl 5 v5
/-- Another want is written over it. -/
theorem WvAt.over (h : WvAt W0 Rb a n cap f w Sb X p y a2 a3 a4 a5 c2 c3 c4 c5) (hr : Rd W0 Rb a n cap f X' p') (ho : Only (fun q => q = Rb) X X') (dr : DrW w.heap.size X' y' a2' a3' a4' a5') (ap : ∀ q, WIn y' a2' a3' a4' a5' q → q ≠ Sb) (short : ShortW y') :
 WvAt W0 Rb a n cap f w Sb (set6 X' Sb (.int .i64 y'.number) (.int .i64 y'.kind) (.slice a2' y'.stuffs.length c2') (.slice a3' y'.uses.length c3') (.slice a4' y'.opens.length c4') (.slice a5' y'.shuts.length c5')) p' y' a2' a3' a4' a5' c2' c3' c4' c5' := by
 have hold := h.old
 have hnew := h.new
 have h' := h.pick hr ho
 have oc := set6_only X' Sb (.int .i64 y'.number) (.int .i64 y'.kind) (.slice a2' y'.stuffs.length c2') (.slice a3' y'.uses.length c3') (.slice a4' y'.opens.length c4') (.slice a5' y'.shuts.length c5')
 exact ⟨(((((h'.row.set 0 _).set 1 _).set 2 _).set 3 _).set 4 _).set 5 _, hr.only oc (fun q hq => by have : q = Sb := hq; omega), h'.on.next oc (fun q hq hq' => by have : q = Sb := hq; omega), h.new, h.old, dr.only oc ap, ap, short⟩
end

end Go.Proofs.YtfmhkicncgccjaaGreat

/- Two operations that may both come up next. -/
namespace Go.Proofs.YtfmhkicncgccjaaGreat
set_option linter.unusedSimpArgs false
set_option linter.unusedVariables false

/-- Numbers i and j alone may come up. -/
theorem wpAnyE_twoC {P : Program} {md : Region.Mode} {ops : Array Oper} {Q : Exit → Act → World → Prop} {S : World → Prop} {d fuel : Nat} (i j : Nat) {dst dst' : Option Tmp} {op op' : Op} {ty ty' : TypeId} {pos pos' : String} {after after' : Array Edge} {guard guard' : Option (Nat × Bool)} {listed : Array Bool} {a : Act} {w : World}
 (hr : Region.ready md ops listed = [i, j]) (hi : ops[i]? = some ⟨dst, op, ty, pos, after, guard⟩) (hj : ops[j]? = some ⟨dst', op', ty', pos', after', guard'⟩)
 (h1 : ∀ K : Act → World → Prop, Shut (∀ a w, (i ≠ d → S w) → wpAnyE P md ops Q S d fuel (listed.setIfInBounds i true) a w → K a w) → if Region.wanted ⟨dst, op, ty, pos, after, guard⟩ (yielded ops a.tmps) = true then Oper.wp P ⟨dst, op, ty, pos, after, guard⟩ a w K Q else K (a.put dst undef) w)
 (h2 : ∀ K : Act → World → Prop, Shut (∀ a w, (j ≠ d → S w) → wpAnyE P md ops Q S d fuel (listed.setIfInBounds j true) a w → K a w) → if Region.wanted ⟨dst', op', ty', pos', after', guard'⟩ (yielded ops a.tmps) = true then Oper.wp P ⟨dst', op', ty', pos', after', guard'⟩ a w K Q else K (a.put dst' undef) w) :
 wpAnyE P md ops Q S d (fuel + 1) listed a w := by
 refine ⟨fun h0 => absurd (hr.symm.trans h0) (by simp), fun m hm => ?_⟩
 rw [hr] at hm
 rcases List.mem_cons.1 hm with e | hm
 · rw [e]
   exact wpOp_step hi (fun K hK => h1 K (fun a w h1 h2 => hK a w ⟨h1, h2⟩))
 · have e : m = j := by simpa using hm
   rw [e]
   exact wpOp_step hj (fun K hK => h2 K (fun a w h1 h2 => hK a w ⟨h1, h2⟩))

end Go.Proofs.YtfmhkicncgccjaaGreat

/- The reader's small steps, and what is answered of it. -/
namespace Go.Proofs.YtfmhkicncgccjaaGreat
open Go.RowKit Go.Sort
set_option linter.unusedSimpArgs false
set_option linter.unusedVariables false

/-- A number is answered; the reader has gone on by d places at most. -/
def IntOf (W0 : World) (Rb : Nat) (a : Option Addr) (n cap : Nat) (f : Nat → Nat) (p d : Int) (e : Ending) (w' : World) : Prop :=
 ∃ (v p' : Int), e = .returned (.int .i64 v) ∧ p ≤ p' ∧ p' ≤ p + d ∧ Rd W0 Rb a n cap f w' p'
/-- A name of a hundred letters at most is answered. -/
def NameOf (W0 : World) (Rb : Nat) (a : Option Addr) (n cap : Nat) (f : Nat → Nat) (p d : Int) (e : Ending) (w' : World) : Prop :=
 ∃ (s : ByteArray) (p' : Int), e = .returned (.string s) ∧ s.size ≤ 1000 ∧ p ≤ p' ∧ p' ≤ p + d ∧ Rd W0 Rb a n cap f w' p'
/-- What only the reader's block may have changed reads as it did. -/
theorem ocell {W w1 : World} {Rb : Nat} (ho : Only (fun q => q = Rb) W w1) : ∀ b o, b < W.heap.size → ¬ b = Rb → w1.cell? ⟨b, o, none⟩ = W.cell? ⟨b, o, none⟩ := fun b o hb hn => by
 have e := ho.block b hb hn
 unfold World.cell?
 rw [e]
theorem on_drew {D : Nat → Prop} {w w' : World} (h : Only D w w') : Only D w w'.drew := h.trans (Only.of (Below.drew (Below.refl _ _)))
theorem on_alloc {D : Nat → Prop} {w w' : World} (h : Only D w w') (b : Obj) : Only D w (w'.alloc b) := h.trans (Only.of ((Below.refl _ _).alloc (Nat.le_refl _) _))
theorem rd_drew {W0 : World} {Rb : Nat} {a : Option Addr} {n cap : Nat} {f : Nat → Nat} {w : World} {p : Int} (h : Rd W0 Rb a n cap f w p) : Rd W0 Rb a n cap f w.drew p := h.later (Below.drew (Below.refl _ _))
theorem rd_alloc {W0 : World} {Rb : Nat} {a : Option Addr} {n cap : Nat} {f : Nat → Nat} {w : World} {p : Int} (h : Rd W0 Rb a n cap f w p) (b : Obj) : Rd W0 Rb a n cap f (w.alloc b) p := h.later ((Below.refl _ _).alloc (Nat.le_refl _) _)

end Go.Proofs.YtfmhkicncgccjaaGreat

/- What l5Of answers. -/
namespace Go.Proofs.YtfmhkicncgccjaaGreat
open Go.RowKit Go.Sort
set_option linter.unusedSimpArgs false
set_option linter.unusedVariables false

set_option maxRecDepth 100000 in
set_option maxHeartbeats 4000000 in
theorem l5Of_any (W0 : World) (Rb : Nat) (a : Option Addr) (n cap : Nat) (f : Nat → Nat) (w : World) (p : Int) (h : Rd W0 Rb a n cap f w p) (h0 : 0 ≤ p) (h1 : p ≤ 900000000) (x : Book) (af ap av aq : Option Addr) (cf cp cv cq : Nat) (hin : DrB (Rb + 1) w x af ap av aq) (hT : x.parts.length ≤ 1000 ∧ x.valves.length ≤ 1000) :
 Calls Tryz.prog 30 #[.pointer (some ⟨Rb, 0, none⟩), bookV x af ap av aq cf cp cv cq] w fun e w' => IntOf W0 Rb a n cap f p 2 e w' ∧ Only (fun q => q = Rb) w w' := by
 have hRb := h.row.lt
 unfold bookV
 obtain ⟨W1, hW1⟩ : ∃ W, W = w.alloc (.cells #[.slice af x.foes.length cf, .slice ap x.spots.length cp, .slice av x.valves.length cv, .slice aq x.parts.length cq, .int .i64 x.seen] 28) := ⟨_, rfl⟩
 have b1 : Below w.heap.size w W1 := by rw [hW1]; exact (Below.refl _ _).alloc (Nat.le_refl _) _
 have v1 : VarAt W0 Rb a n cap f w w.heap.size 28 W1 p [.slice af x.foes.length cf, .slice ap x.spots.length cp, .slice av x.valves.length cv, .slice aq x.parts.length cq, .int .i64 x.seen] := ⟨by rw [hW1]; exact Row.new _ _ _, h.later b1, Only.of b1, Nat.le_refl _, hRb⟩
 have d1 := hin.later b1
 by_cases hp : 0 < x.parts.length
 · have hp2 : (0 : Int) < x.parts.length := by omega
   go_enter Tryz.func30, Tryz.ntmps30
   go_wp2_with fail
   rw [← hW1]
   clear hW1
   have g3 := v1.row.cell 3 rfl
   refine (pick_any W0 Rb a n cap f W1 p 6 v1.rd h0 (by omega)).mono ?_
   rintro e X ⟨⟨v, rfl, hv0, hv1⟩, hr1, on1⟩
   have vX := v1.pick hr1 on1
   have dX := d1.low on1 (fun q hq => by have : q = Rb := hq; omega)
   clear v1 d1 hr1 on1 g3 hv1
   by_cases hv : 0 < v
   · have hS2 : ∀ W, Only (fun q => q = Rb) X W → W.cell? ⟨w.heap.size, 3, none⟩ = some (.slice aq x.parts.length cq) := fun W hb => cell_only hb (vX.row.cell 3 rfl) vX.row.lt (by omega)
     have hS20 := hS2 X (Only.refl _ _)
     have rX := vX.rd
     have onw := vX.on
     go_wp2_with fail
     refine wp_region_E (fun W => W.cell? ⟨w.heap.size, 3, none⟩ = some (.slice aq x.parts.length cq)) 11 (by kernel_rfl) ?_
     refine tk 0 ?vak0 rfl (by kernel_rfl) (fun _ _ _ h => h) (by rfl) hS20 ?yak0 ?rak0
     case yak0 => intro w' h; (try dsimp only at h); go_simp; (try with_reducible rfl)
     try simp only [Act.put, sA, sB, sC]
     refine tk 1 ?vak1 rfl (by kernel_rfl) (fun _ _ _ h => h) (by rfl) hS20 ?yak1 ?rak1
     case yak1 => intro w' h; (try dsimp only at h); go_simp; (try with_reducible rfl)
     try simp only [Act.put, sA, sB, sC]
     refine tk 2 ?vak2 rfl (by kernel_rfl) (fun _ _ _ h => h) (by rfl) hS20 ?yak2 ?rak2
     case yak2 => intro w' h; (try dsimp only at h); go_simp; (try with_reducible rfl)
     try simp only [Act.put, sA, sB, sC]
     refine tk 3 ?vak3 rfl (by kernel_rfl) (fun _ _ _ h => h) (by rfl) hS20 ?yak3 ?rak3
     case yak3 => intro w' h; (try dsimp only at h); go_simp; (try with_reducible rfl)
     try simp only [Act.put, sA, sB, sC]
     refine tk 4 ?vak4 rfl (by kernel_rfl) (fun _ _ _ h => h) (by rfl) hS20 ?yak4 ?rak4
     case yak4 => intro w' h; (try dsimp only at h); go_simp; (try with_reducible rfl)
     try simp only [Act.put, sA, sB, sC]
     refine tk 5 ?vak5 rfl (by kernel_rfl) (fun _ _ _ h => h) (by rfl) hS20 ?yak5 ?rak5
     case yak5 => intro w' h; (try dsimp only at h); go_simp; (try with_reducible rfl)
     try simp only [Act.put, sA, sB, sC]
     refine wpAnyE_oneC (i := 6) rfl (by kernel_rfl) ?_
     intro K hK
     rw [if_pos (by rfl)]
     go_wp2_with (go_at_call 71; refine (pick_any W0 Rb a n cap f _ (p + 1) x.parts.length (by (repeat (first | assumption | refine rd_drew ?_ | refine rd_alloc ?_ _))) (by omega) (by omega)).mono ?_; rintro e X9 ⟨⟨v9, rfl, hv90, hv91⟩, hr9, on9⟩; have onX : Only (fun q => q = Rb) X X9 := Only.trans (by (repeat (first | assumption | exact Only.refl _ _ | refine on_drew ?_ | refine on_alloc ?_ _))) on9)
     refine hK.out _ _ (fun _ => hS2 _ onX) ?_
     clear hK K
     try simp only [Act.put, sA, sB, sC]
     obtain ⟨i, rfl⟩ : ∃ i : Nat, v9 = i := ⟨v9.toNat, by omega⟩
     have hi : i < x.parts.length := by omega
     have hi2 : (i : Int) < x.parts.length := by omega
     clear hv90 hv91
     obtain ⟨A, C, hpr, -⟩ := (dX.low onX (fun q hq => by have : q = Rb := hq; omega)).parts
     obtain ⟨bq, oq, hq, hbq, hcq⟩ := hpr i hi
     clear hpr
     subst hq
     have hcq0 := hcq 0 (by omega)
     simp only [partCell, Nat.add_zero] at hcq0
     clear hcq
     refine wpAnyE_oneC (i := 7) rfl (by kernel_rfl) ?_
     intro K hK
     rw [if_pos (by rfl)]
     go_wp2_with fail
     refine hK.out _ _ (fun _ => hS2 _ onX) ?_
     clear hK K
     try simp only [Act.put, sA, sB, sC]
     refine wpAnyE_oneC (i := 8) rfl (by kernel_rfl) ?_
     intro K hK
     rw [if_pos (by rfl)]
     go_wp2_with fail
     refine hK.out _ _ (fun _ => hS2 _ onX) ?_
     clear hK K
     try simp only [Act.put, sA, sB, sC]
     refine wpAnyE_oneC (i := 9) rfl (by kernel_rfl) ?_
     intro K hK
     rw [if_pos (by rfl)]
     go_wp2_with fail
     refine hK.out _ _ (fun _ => hS2 _ onX) ?_
     clear hK K
     try simp only [Act.put, sA, sB, sC]
     refine wpAnyE_oneC (i := 10) rfl (by kernel_rfl) ?_
     intro K hK
     rw [if_pos (by rfl)]
     go_wp2_with fail
     refine hK.out _ _ (fun _ => hS2 _ onX) ?_
     clear hK K
     try simp only [Act.put, sA, sB, sC]
     refine wpAnyE_oneC (i := 11) rfl (by kernel_rfl) ?_
     intro K hK
     rw [if_pos (by rfl)]
     go_wp2_with fail
     refine hK.out _ _ (fun h => absurd rfl h) ?_
     clear hK K
     try simp only [Act.put, sA, sB, sC]
     refine wpAnyE_done (by kernel_rfl) ?_ _
     clear hcq0
     go_wp2
     go_ret
     exact ⟨⟨_, p + 1 + 1, rfl, by omega, by omega, hr9⟩, onw.trans onX⟩
   · obtain ⟨pX, hpX, hp1, hp3⟩ : ∃ pX, pX = p + 1 ∧ p ≤ pX ∧ pX ≤ p + 1 := ⟨p + 1, rfl, by omega, by omega⟩
     rw [← hpX] at vX
     clear hpX dX
     have hS : ∀ W, Only (fun q => q = Rb) X W → W.cell? ⟨w.heap.size, 4, none⟩ = some (.int .i64 x.seen) := fun W hb => cell_only hb (vX.row.cell 4 rfl) vX.row.lt (by omega)
     have hS0 := hS X (Only.refl _ _)
     have rX := vX.rd
     have onw := vX.on
     have hRX := vX.rd.row.lt
     have lt1 : w.heap.size < X.heap.size := vX.row.lt
     have ne1 : ¬ X.heap.size = Rb := by omega
     have ne2 : ¬ w.heap.size = Rb := by omega
     go_wp2_with fail
     refine wp_region_E (fun W => W.cell? ⟨w.heap.size, 4, none⟩ = some (.int .i64 x.seen)) 10 (by kernel_rfl) ?_
     refine tk 0 ?val0 rfl (by kernel_rfl) (fun _ _ _ h => h) (by rfl) hS0 ?yal0 ?ral0
     case yal0 => intro w' h; (try dsimp only at h); go_simp; (try with_reducible rfl)
     try simp only [Act.put, sA, sB, sC]
     refine tk 1 ?val1 rfl (by kernel_rfl) (fun _ _ _ h => h) (by rfl) hS0 ?yal1 ?ral1
     case yal1 => intro w' h; (try dsimp only at h); go_simp; (try with_reducible rfl)
     try simp only [Act.put, sA, sB, sC]
     refine tk 2 ?val2 rfl (by kernel_rfl) (fun _ _ _ h => h) (by rfl) hS0 ?yal2 ?ral2
     case yal2 => intro w' h; (try dsimp only at h); go_simp; (try with_reducible rfl)
     try simp only [Act.put, sA, sB, sC]
     refine tk 3 ?val3 rfl (by kernel_rfl) (fun _ _ _ h => h) (by rfl) hS0 ?yal3 ?ral3
     case yal3 => intro w' h; (try dsimp only at h); go_simp; (try with_reducible rfl)
     try simp only [Act.put, sA, sB, sC]
     refine tk 4 ?val4 rfl (by kernel_rfl) (fun _ _ _ h => h) (by rfl) hS0 ?yal4 ?ral4
     case yal4 => intro w' h; (try dsimp only at h); go_simp; (try with_reducible rfl)
     try simp only [Act.put, sA, sB, sC]
     refine tk 6 ?val6 rfl (by kernel_rfl) (fun _ _ _ h => h) (by rfl) hS0 ?yal6 ?ral6
     case yal6 => intro w' h; (try dsimp only at h); go_simp; (try with_reducible rfl)
     try simp only [Act.put, sA, sB, sC]
     refine wpAnyE_twoC 5 7 (by kernel_rfl) rfl rfl ?wl1 ?wl2
     case wl1 =>
      intro K hK
      rw [if_pos (by rfl)]
      go_wp2_with fail
      refine hK.out _ _ (fun _ => hS _ (by (repeat (first | assumption | exact Only.refl _ _ | refine on_drew ?_ | refine on_alloc ?_ _)))) ?_
      clear hK K
      try simp only [Act.put, sA, sB, sC]
      refine wpAnyE_oneC (i := 7) rfl (by kernel_rfl) ?_
      intro K hK
      rw [if_pos (by rfl)]
      go_wp2_with (go_at_call 71; refine (pick_any W0 Rb a n cap f _ (pX) 4 (by (repeat (first | assumption | refine rd_drew ?_ | refine rd_alloc ?_ _))) (by omega) (by omega)).mono ?_; rintro e X9 ⟨⟨v9, rfl, hv90, hv91⟩, hr9, on9⟩; have onX : Only (fun q => q = Rb) X X9 := Only.trans (by (repeat (first | assumption | exact Only.refl _ _ | refine on_drew ?_ | refine on_alloc ?_ _))) on9)
      refine hK.out _ _ (fun _ => hS _ onX) ?_
      clear hK K
      try simp only [Act.put, sA, sB, sC]
      have hv4 : v9 = 0 ∨ v9 = 1 ∨ v9 = 2 ∨ v9 = 3 := by omega
      have hc9 := ocell on9
      clear hv90 hv91
      rcases hv4 with rfl | rfl | rfl | rfl
      all_goals
       refine wpAnyE_oneC (i := 8) rfl (by kernel_rfl) ?_
       intro K hK
       rw [if_pos (by rfl)]
       go_wp2_with fail
       refine hK.out _ _ (fun _ => hS _ (by (repeat (first | assumption | exact Only.refl _ _ | refine on_drew ?_ | refine on_alloc ?_ _)))) ?_
       clear hK K
       try simp only [Act.put, sA, sB, sC]
       refine wpAnyE_oneC (i := 9) rfl (by kernel_rfl) ?_
       intro K hK
       rw [if_pos (by rfl)]
       go_wp2_with fail
       refine hK.out _ _ (fun _ => hS _ (by (repeat (first | assumption | exact Only.refl _ _ | refine on_drew ?_ | refine on_alloc ?_ _)))) ?_
       clear hK K
       try simp only [Act.put, sA, sB, sC]
       refine wpAnyE_oneC (i := 10) rfl (by kernel_rfl) ?_
       intro K hK
       rw [if_pos (by rfl)]
       go_wp2_with fail
       refine hK.out _ _ (fun h => absurd rfl h) ?_
       clear hK K
       try simp only [Act.put, sA, sB, sC]
       refine wpAnyE_done (by kernel_rfl) ?_ _
       go_wp2
       go_ret
       exact ⟨⟨_, pX + 1, rfl, by omega, by omega, (by (repeat (first | assumption | refine rd_drew ?_ | refine rd_alloc ?_ _)))⟩, onw.trans (by (repeat (first | assumption | exact Only.refl _ _ | refine on_drew ?_ | refine on_alloc ?_ _)))⟩
     case wl2 =>
      intro K hK
      rw [if_pos (by rfl)]
      go_wp2_with (go_at_call 71; refine (pick_any W0 Rb a n cap f _ (pX) 4 (by (repeat (first | assumption | refine rd_drew ?_ | refine rd_alloc ?_ _))) (by omega) (by omega)).mono ?_; rintro e X9 ⟨⟨v9, rfl, hv90, hv91⟩, hr9, on9⟩; have onX : Only (fun q => q = Rb) X X9 := Only.trans (by (repeat (first | assumption | exact Only.refl _ _ | refine on_drew ?_ | refine on_alloc ?_ _))) on9)
      refine hK.out _ _ (fun _ => hS _ onX) ?_
      clear hK K
      try simp only [Act.put, sA, sB, sC]
      have hv4 : v9 = 0 ∨ v9 = 1 ∨ v9 = 2 ∨ v9 = 3 := by omega
      have hc9 := ocell on9
      clear hv90 hv91
      refine wpAnyE_oneC (i := 5) rfl (by kernel_rfl) ?_
      intro K hK
      rw [if_pos (by rfl)]
      go_wp2_with fail
      refine hK.out _ _ (fun _ => hS _ (by (repeat (first | assumption | exact Only.refl _ _ | refine on_drew ?_ | refine on_alloc ?_ _)))) ?_
      clear hK K
      try simp only [Act.put, sA, sB, sC]
      rcases hv4 with rfl | rfl | rfl | rfl
      all_goals
       refine wpAnyE_oneC (i := 8) rfl (by kernel_rfl) ?_
       intro K hK
       rw [if_pos (by rfl)]
       go_wp2_with fail
       refine hK.out _ _ (fun _ => hS _ (by (repeat (first | assumption | exact Only.refl _ _ | refine on_drew ?_ | refine on_alloc ?_ _)))) ?_
       clear hK K
       try simp only [Act.put, sA, sB, sC]
       refine wpAnyE_oneC (i := 9) rfl (by kernel_rfl) ?_
       intro K hK
       rw [if_pos (by rfl)]
       go_wp2_with fail
       refine hK.out _ _ (fun _ => hS _ (by (repeat (first | assumption | exact Only.refl _ _ | refine on_drew ?_ | refine on_alloc ?_ _)))) ?_
       clear hK K
       try simp only [Act.put, sA, sB, sC]
       refine wpAnyE_oneC (i := 10) rfl (by kernel_rfl) ?_
       intro K hK
       rw [if_pos (by rfl)]
       go_wp2_with fail
       refine hK.out _ _ (fun h => absurd rfl h) ?_
       clear hK K
       try simp only [Act.put, sA, sB, sC]
       refine wpAnyE_done (by kernel_rfl) ?_ _
       go_wp2
       go_ret
       exact ⟨⟨_, pX + 1, rfl, by omega, by omega, (by (repeat (first | assumption | refine rd_drew ?_ | refine rd_alloc ?_ _)))⟩, onw.trans (by (repeat (first | assumption | exact Only.refl _ _ | refine on_drew ?_ | refine on_alloc ?_ _)))⟩
 · have hp2 : ¬ (0 : Int) < x.parts.length := by omega
   go_enter Tryz.func30, Tryz.ntmps30
   go_wp2_with fail
   rw [← hW1]
   clear hW1
   obtain ⟨X, hX⟩ : ∃ X, X = W1 := ⟨_, rfl⟩
   subst hX
   obtain ⟨pX, hpX, hp1, hp3⟩ : ∃ pX, pX = p ∧ p ≤ pX ∧ pX ≤ p + 1 := ⟨p, rfl, by omega, by omega⟩
   have vX := v1
   rw [← hpX] at vX
   clear hpX v1
   have hS : ∀ W, Only (fun q => q = Rb) X W → W.cell? ⟨w.heap.size, 4, none⟩ = some (.int .i64 x.seen) := fun W hb => cell_only hb (vX.row.cell 4 rfl) vX.row.lt (by omega)
   have hS0 := hS X (Only.refl _ _)
   have rX := vX.rd
   have onw := vX.on
   have hRX := vX.rd.row.lt
   have lt1 : w.heap.size < X.heap.size := vX.row.lt
   have ne1 : ¬ X.heap.size = Rb := by omega
   have ne2 : ¬ w.heap.size = Rb := by omega
   go_wp2_with fail
   refine wp_region_E (fun W => W.cell? ⟨w.heap.size, 4, none⟩ = some (.int .i64 x.seen)) 10 (by kernel_rfl) ?_
   refine tk 0 ?vam0 rfl (by kernel_rfl) (fun _ _ _ h => h) (by rfl) hS0 ?yam0 ?ram0
   case yam0 => intro w' h; (try dsimp only at h); go_simp; (try with_reducible rfl)
   try simp only [Act.put, sA, sB, sC]
   refine tk 1 ?vam1 rfl (by kernel_rfl) (fun _ _ _ h => h) (by rfl) hS0 ?yam1 ?ram1
   case yam1 => intro w' h; (try dsimp only at h); go_simp; (try with_reducible rfl)
   try simp only [Act.put, sA, sB, sC]
   refine tk 2 ?vam2 rfl (by kernel_rfl) (fun _ _ _ h => h) (by rfl) hS0 ?yam2 ?ram2
   case yam2 => intro w' h; (try dsimp only at h); go_simp; (try with_reducible rfl)
   try simp only [Act.put, sA, sB, sC]
   refine tk 3 ?vam3 rfl (by kernel_rfl) (fun _ _ _ h => h) (by rfl) hS0 ?yam3 ?ram3
   case yam3 => intro w' h; (try dsimp only at h); go_simp; (try with_reducible rfl)
   try simp only [Act.put, sA, sB, sC]
   refine tk 4 ?vam4 rfl (by kernel_rfl) (fun _ _ _ h => h) (by rfl) hS0 ?yam4 ?ram4
   case yam4 => intro w' h; (try dsimp only at h); go_simp; (try with_reducible rfl)
   try simp only [Act.put, sA, sB, sC]
   refine tk 6 ?vam6 rfl (by kernel_rfl) (fun _ _ _ h => h) (by rfl) hS0 ?yam6 ?ram6
   case yam6 => intro w' h; (try dsimp only at h); go_simp; (try with_reducible rfl)
   try simp only [Act.put, sA, sB, sC]
   refine wpAnyE_twoC 5 7 (by kernel_rfl) rfl rfl ?wml1 ?wml2
   case wml1 =>
    intro K hK
    rw [if_pos (by rfl)]
    go_wp2_with fail
    refine hK.out _ _ (fun _ => hS _ (by (repeat (first | assumption | exact Only.refl _ _ | refine on_drew ?_ | refine on_alloc ?_ _)))) ?_
    clear hK K
    try simp only [Act.put, sA, sB, sC]
    refine wpAnyE_oneC (i := 7) rfl (by kernel_rfl) ?_
    intro K hK
    rw [if_pos (by rfl)]
    go_wp2_with (go_at_call 71; refine (pick_any W0 Rb a n cap f _ (pX) 4 (by (repeat (first | assumption | refine rd_drew ?_ | refine rd_alloc ?_ _))) (by omega) (by omega)).mono ?_; rintro e X9 ⟨⟨v9, rfl, hv90, hv91⟩, hr9, on9⟩; have onX : Only (fun q => q = Rb) X X9 := Only.trans (by (repeat (first | assumption | exact Only.refl _ _ | refine on_drew ?_ | refine on_alloc ?_ _))) on9)
    refine hK.out _ _ (fun _ => hS _ onX) ?_
    clear hK K
    try simp only [Act.put, sA, sB, sC]
    have hv4 : v9 = 0 ∨ v9 = 1 ∨ v9 = 2 ∨ v9 = 3 := by omega
    have hc9 := ocell on9
    clear hv90 hv91
    rcases hv4 with rfl | rfl | rfl | rfl
    all_goals
     refine wpAnyE_oneC (i := 8) rfl (by kernel_rfl) ?_
     intro K hK
     rw [if_pos (by rfl)]
     go_wp2_with fail
     refine hK.out _ _ (fun _ => hS _ (by (repeat (first | assumption | exact Only.refl _ _ | refine on_drew ?_ | refine on_alloc ?_ _)))) ?_
     clear hK K
     try simp only [Act.put, sA, sB, sC]
     refine wpAnyE_oneC (i := 9) rfl (by kernel_rfl) ?_
     intro K hK
     rw [if_pos (by rfl)]
     go_wp2_with fail
     refine hK.out _ _ (fun _ => hS _ (by (repeat (first | assumption | exact Only.refl _ _ | refine on_drew ?_ | refine on_alloc ?_ _)))) ?_
     clear hK K
     try simp only [Act.put, sA, sB, sC]
     refine wpAnyE_oneC (i := 10) rfl (by kernel_rfl) ?_
     intro K hK
     rw [if_pos (by rfl)]
     go_wp2_with fail
     refine hK.out _ _ (fun h => absurd rfl h) ?_
     clear hK K
     try simp only [Act.put, sA, sB, sC]
     refine wpAnyE_done (by kernel_rfl) ?_ _
     go_wp2
     go_ret
     exact ⟨⟨_, pX + 1, rfl, by omega, by omega, (by (repeat (first | assumption | refine rd_drew ?_ | refine rd_alloc ?_ _)))⟩, onw.trans (by (repeat (first | assumption | exact Only.refl _ _ | refine on_drew ?_ | refine on_alloc ?_ _)))⟩
   case wml2 =>
    intro K hK
    rw [if_pos (by rfl)]
    go_wp2_with (go_at_call 71; refine (pick_any W0 Rb a n cap f _ (pX) 4 (by (repeat (first | assumption | refine rd_drew ?_ | refine rd_alloc ?_ _))) (by omega) (by omega)).mono ?_; rintro e X9 ⟨⟨v9, rfl, hv90, hv91⟩, hr9, on9⟩; have onX : Only (fun q => q = Rb) X X9 := Only.trans (by (repeat (first | assumption | exact Only.refl _ _ | refine on_drew ?_ | refine on_alloc ?_ _))) on9)
    refine hK.out _ _ (fun _ => hS _ onX) ?_
    clear hK K
    try simp only [Act.put, sA, sB, sC]
    have hv4 : v9 = 0 ∨ v9 = 1 ∨ v9 = 2 ∨ v9 = 3 := by omega
    have hc9 := ocell on9
    clear hv90 hv91
    refine wpAnyE_oneC (i := 5) rfl (by kernel_rfl) ?_
    intro K hK
    rw [if_pos (by rfl)]
    go_wp2_with fail
    refine hK.out _ _ (fun _ => hS _ (by (repeat (first | assumption | exact Only.refl _ _ | refine on_drew ?_ | refine on_alloc ?_ _)))) ?_
    clear hK K
    try simp only [Act.put, sA, sB, sC]
    rcases hv4 with rfl | rfl | rfl | rfl
    all_goals
     refine wpAnyE_oneC (i := 8) rfl (by kernel_rfl) ?_
     intro K hK
     rw [if_pos (by rfl)]
     go_wp2_with fail
     refine hK.out _ _ (fun _ => hS _ (by (repeat (first | assumption | exact Only.refl _ _ | refine on_drew ?_ | refine on_alloc ?_ _)))) ?_
     clear hK K
     try simp only [Act.put, sA, sB, sC]
     refine wpAnyE_oneC (i := 9) rfl (by kernel_rfl) ?_
     intro K hK
     rw [if_pos (by rfl)]
     go_wp2_with fail
     refine hK.out _ _ (fun _ => hS _ (by (repeat (first | assumption | exact Only.refl _ _ | refine on_drew ?_ | refine on_alloc ?_ _)))) ?_
     clear hK K
     try simp only [Act.put, sA, sB, sC]
     refine wpAnyE_oneC (i := 10) rfl (by kernel_rfl) ?_
     intro K hK
     rw [if_pos (by rfl)]
     go_wp2_with fail
     refine hK.out _ _ (fun h => absurd rfl h) ?_
     clear hK K
     try simp only [Act.put, sA, sB, sC]
     refine wpAnyE_done (by kernel_rfl) ?_ _
     go_wp2
     go_ret
     exact ⟨⟨_, pX + 1, rfl, by omega, by omega, (by (repeat (first | assumption | refine rd_drew ?_ | refine rd_alloc ?_ _)))⟩, onw.trans (by (repeat (first | assumption | exact Only.refl _ _ | refine on_drew ?_ | refine on_alloc ?_ _)))⟩

end Go.Proofs.YtfmhkicncgccjaaGreat

