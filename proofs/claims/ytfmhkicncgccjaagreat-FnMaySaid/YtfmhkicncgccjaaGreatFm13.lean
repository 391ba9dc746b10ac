/- Joined: DrD. -/
import Derived.Deep.RegionHeld3
import Derived.Deep.DeepCutAuto
import Derived.Test.YtfmhkicncgccjaaGreatFm06
import Derived.Test.YtfmhkicncgccjaaGreatFm12
import Derived.Test.YtfmhkicncgccjaaGreatFm11
import Derived.Test.YtfmhkicncgccjaaGreatFm05
/- What l5Base answers. -/
namespace Go.Proofs.YtfmhkicncgccjaaGreat
open Go.RowKit Go.Sort
set_option linter.unusedSimpArgs false
set_option linter.unusedVariables false

def baseNames : List ByteArray := [{ data := #[106, 49] }, { data := #[106, 50] }, { data := #[107, 101, 103] }, { data := #[116, 117, 110] }, { data := #[118, 97, 116] }]
def baseStuffs : List ByteArray := [{ data := #[97, 108, 101] }, { data := #[109, 97, 108, 116] }, { data := #[119, 97, 116, 101, 114] }]
def baseValves : List ByteArray := [{ data := #[97] }, { data := #[98] }, { data := #[99] }, { data := #[100] }, { data := #[101] }, { data := #[102] }]
def baseFoes : List Foe := [⟨{ data := #[97, 108, 101] }, { data := #[108, 121, 101] }⟩, ⟨{ data := #[108, 121, 101] }, { data := #[109, 97, 108, 116] }⟩]
/-- A want whose names are few and short. -/
structure TinyW (y : Want) : Prop where
 stuffs : y.stuffs.length ≤ 100 ∧ ∀ t ∈ y.stuffs, t.size ≤ 100
 uses : y.uses.length ≤ 100 ∧ ∀ t ∈ y.uses, t.name.size ≤ 100
 opens : y.opens.length ≤ 100 ∧ ∀ t ∈ y.opens, t.size ≤ 100
 shuts : y.shuts.length ≤ 100 ∧ ∀ t ∈ y.shuts, t.size ≤ 100
/-- A spot whose names are few and short. -/
def TinyS (s : Spot) : Prop := s.name.size ≤ 100 ∧ s.may.length ≤ 100 ∧ ∀ t ∈ s.may, t.size ≤ 100
/-- A book whose lists and names are few and short. -/
structure Tiny (x : Book) : Prop where
 foes : x.foes.length ≤ 100 ∧ ∀ s ∈ x.foes, s.a.size ≤ 100 ∧ s.b.size ≤ 100
 spots : x.spots.length ≤ 100 ∧ ∀ s ∈ x.spots, TinyS s
 valves : x.valves.length ≤ 100 ∧ ∀ s ∈ x.valves, s.size ≤ 100
 parts : x.parts.length ≤ 100 ∧ ∀ q ∈ x.parts, TinyW q.want
/-- A drawn book is answered, in memory from B on; the reader has gone on by d places at most. -/
def BookOf (W0 : World) (Rb : Nat) (a : Option Addr) (n cap : Nat) (f : Nat → Nat) (B : Nat) (p d : Int) (e : Ending) (w' : World) : Prop :=
 ∃ (x : Book) (af ap av aq : Option Addr) (cf cp cv cq : Nat) (p' : Int), e = .returned (bookV x af ap av aq cf cp cv cq) ∧ DrB B w' x af ap av aq ∧ Tiny x ∧ p ≤ p' ∧ p' ≤ p + d ∧ Rd W0 Rb a n cap f w' p'
theorem baseNames_short : ∀ s ∈ baseNames, s.size ≤ 100 := by decide
theorem baseStuffs_short : ∀ s ∈ baseStuffs, s.size ≤ 100 := by decide
theorem baseValves_short : ∀ s ∈ baseValves, s.size ≤ 100 := by decide
/-- A row of names. -/
theorem strsAt_row {w : World} {b : Nat} (ss : List ByteArray) (h : Row w b 9 (ss.map Value.string)) : StrsAt w (some ⟨b, 0, none⟩) ss := by
 intro k hk
 refine ⟨b, 0, rfl, h.lt, fun j hj => ?_⟩
 have hj0 : j = 0 := by omega
 subst hj0
 have := h.cell k (v := .string (gs ss k)) (by simp [gs, List.getElem?_map, List.getElem?_eq_getElem hk])
 simpa using this
theorem gs_short {ss : List ByteArray} {m : Nat} (h : ∀ s ∈ ss, s.size ≤ m) {k : Nat} (hk : k < ss.length) : (gs ss k).size ≤ m := h _ (gs_mem hk)

/-- A variable in the block Sb, made behind X1, and the reader at the place p. -/
structure VarAt (W0 : World) (Rb : Nat) (a : Option Addr) (n cap : Nat) (f : Nat → Nat) (X1 : World) (Sb : Nat) (t : TypeId) (X : World) (p : Int) (l : List Value) : Prop where
 row : Row X Sb t l
 rd : Rd W0 Rb a n cap f X p
 on : Only (fun q => q = Rb) X1 X
 new : X1.heap.size ≤ Sb
 old : Rb < X1.heap.size
theorem VarAt.pick {W0 : World} {Rb : Nat} {a : Option Addr} {n cap : Nat} {f : Nat → Nat} {X1 X X' : World} {Sb : Nat} {t : TypeId} {p p' : Int} {l : List Value} (h : VarAt W0 Rb a n cap f X1 Sb t X p l) (hr : Rd W0 Rb a n cap f X' p') (ho : Only (fun q => q = Rb) X X') : VarAt W0 Rb a n cap f X1 Sb t X' p' l :=
 ⟨h.row.only ho (by have := h.new; have := h.old; omega), hr, h.on.trans ho, h.new, h.old⟩
theorem VarAt.set {W0 : World} {Rb : Nat} {a : Option Addr} {n cap : Nat} {f : Nat → Nat} {X1 X : World} {Sb : Nat} {t : TypeId} {p : Int} {l : List Value} (h : VarAt W0 Rb a n cap f X1 Sb t X p l) (i : Nat) (v : Value) : VarAt W0 Rb a n cap f X1 Sb t (X.setCell ⟨Sb, i, none⟩ v) p (l.set i v) :=
 have oc : Only (fun q => q = Sb) X (X.setCell ⟨Sb, i, none⟩ v) := Only.cell _ ⟨Sb, i, none⟩ _
 ⟨h.row.set i v, h.rd.only oc (fun q hq => by have : q = Sb := hq; have := h.new; have := h.old; omega), h.on.next oc (fun q hq hq' => by have : q = Sb := hq; have := h.new; omega), h.new, h.old⟩
theorem VarAt.later {W0 : World} {Rb : Nat} {a : Option Addr} {n cap : Nat} {f : Nat → Nat} {X1 X X' : World} {Sb : Nat} {t : TypeId} {p : Int} {l : List Value} (h : VarAt W0 Rb a n cap f X1 Sb t X p l) (hb : Below X.heap.size X X') : VarAt W0 Rb a n cap f X1 Sb t X' p l :=
 ⟨h.row.later hb, h.rd.later hb, h.on.trans (Only.of hb), h.new, h.old⟩

set_option maxRecDepth 100000 in
set_option maxHeartbeats 4000000 in
theorem l5Base_any (W0 : World) (Rb : Nat) (a : Option Addr) (n cap : Nat) (f : Nat → Nat) (w : World) (p : Int) (h : Rd W0 Rb a n cap f w p) (h0 : 0 ≤ p) (h1 : p ≤ 900000000) :
 Calls Tryz.prog 116 #[.pointer (some ⟨Rb, 0, none⟩)] w fun e w' => BookOf W0 Rb a n cap f w.heap.size p 60 e w' ∧ Only (fun q => q = Rb) w w' := by
 have hRb := h.row.lt
 obtain ⟨W1, hW1⟩ : ∃ W, W = ((w.alloc (.cells #[.slice none 0 0, .slice none 0 0, .slice none 0 0, .slice none 0 0, .int .i64 0] 28)).alloc (.cells #[.string { data := #[97, 108, 101] }, .string { data := #[108, 121, 101] }, .string { data := #[108, 121, 101] }, .string { data := #[109, 97, 108, 116] }] 70)).alloc (.cells #[.slice (some ⟨w.heap.size + 1, 0, none⟩) 2 2, .slice none 0 0, .slice none 0 0, .slice none 0 0, .int .i64 0] 28) := ⟨_, rfl⟩
 have b1 : Below w.heap.size w W1 := by rw [hW1]; exact (((Below.refl _ _).alloc (Nat.le_refl _) _).alloc (by simp) _).alloc (by simp; omega) _
 have z1 : Row W1 w.heap.size 28 [.slice none 0 0, .slice none 0 0, .slice none 0 0, .slice none 0 0, .int .i64 0] := by rw [hW1]; exact ((Row.new _ _ _).alloc _).alloc _
 have f1 : Row W1 (w.heap.size + 1) 70 [.string { data := #[97, 108, 101] }, .string { data := #[108, 121, 101] }, .string { data := #[108, 121, 101] }, .string { data := #[109, 97, 108, 116] }] := by rw [hW1]; exact (Row.new' (by simp)).alloc _
 have k1 : Row W1 (w.heap.size + 1 + 1) 28 [.slice (some ⟨w.heap.size + 1, 0, none⟩) 2 2, .slice none 0 0, .slice none 0 0, .slice none 0 0, .int .i64 0] := by rw [hW1]; exact Row.new' (by simp)
 have r1 := h.later b1
 go_enter Tryz.func116, Tryz.ntmps116
 go_wp2_with fail
 rw [← hW1]
 clear hW1
 refine (pick_any W0 Rb a n cap f W1 p 3 r1 h0 (by omega)).mono ?_
 rintro e X1 ⟨⟨v, rfl, hv0, hv1⟩, hr1, on1⟩
 have on0 : Only (fun q => q = Rb) w X1 := (Only.of b1).trans on1
 have z2 := z1.only on1 (by omega)
 have f2 := f1.only on1 (by omega)
 have k2 := k1.only on1 (by omega)
 clear z1 f1 k1 b1 hv1
 go_upto_if 15 with fail
 go_cut [3] (fun q wx => ∃ (fs : List Foe) (o fc : Nat) (p' : Int), q = .pointer (some ⟨w.heap.size + 1 + 1, 0, none⟩) ∧ Row wx (w.heap.size + 1 + 1) 28 [.slice (some ⟨w.heap.size + 1, o, none⟩) fs.length fc, .slice none 0 0, .slice none 0 0, .slice none 0 0, .int .i64 0] ∧ FoesAt wx (some ⟨w.heap.size + 1, o, none⟩) fs ∧ fs.length ≤ 2 ∧ (∀ s ∈ fs, s.a.size ≤ 100 ∧ s.b.size ≤ 100) ∧ p ≤ p' ∧ p' ≤ p + 1 ∧ Rd W0 Rb a n cap f wx p' ∧ Only (fun q => q = Rb) w wx ∧ Row wx w.heap.size 28 [.slice none 0 0, .slice none 0 0, .slice none 0 0, .slice none 0 0, .int .i64 0])
 case first =>
  have fA : FoesAt X1 (some ⟨w.heap.size + 1, 0, none⟩) baseFoes := by
   intro k hk
   refine ⟨_, _, rfl, f2.lt, fun j hj => ?_⟩
   have hk' : k < 2 := hk
   match k, hk', j, hj with
   | 0, _, 0, _ => exact f2.cell 0 rfl
   | 0, _, 1, _ => exact f2.cell 1 rfl
   | 1, _, 0, _ => exact f2.cell 2 rfl
   | 1, _, 1, _ => exact f2.cell 3 rfl
  have g0 := k2.cell 0 rfl
  have g0f := k2.frozen 0
  by_cases hv : v = 0
  · subst hv
    have fB : FoesAt X1 (some ⟨w.heap.size + 1, 2, none⟩) (baseFoes.drop 1) := by
     intro k hk
     refine ⟨_, _, rfl, f2.lt, fun j hj => ?_⟩
     have hk' : k < 1 := hk
     match k, hk', j, hj with
     | 0, _, 0, _ => exact f2.cell 2 rfl
     | 0, _, 1, _ => exact f2.cell 3 rfl
    have oc : Only (fun q => q = w.heap.size + 1 + 1) X1 (X1.setCell ⟨w.heap.size + 1 + 1, 0, none⟩ (.slice (some ⟨w.heap.size + 1, 2, none⟩) 1 1)) := Only.cell _ ⟨w.heap.size + 1 + 1, 0, none⟩ _
    have FIN : Hid _ := And.intro (k2.set 0 (.slice (some ⟨w.heap.size + 1, 2, none⟩) 1 1)) (And.intro (RowAt.only fB oc (fun q hq hq' => by obtain ⟨_, o, e⟩ := hq; cases e; omega)) (And.intro (hr1.only oc (fun q hq => by omega)) (And.intro (on0.next oc (fun q hq hq' => by omega)) (z2.only oc (by omega)))))
    clear fA fB hr1 on1 on0 z2 f2 k2 oc
    go_wp2_with fail
    go_meet
    exact ⟨baseFoes.drop 1, 2, 1, p + 1, rfl, FIN.out.1, FIN.out.2.1, by decide, by decide, by omega, by omega, FIN.out.2.2.1, FIN.out.2.2.2.1, FIN.out.2.2.2.2⟩
  · have hvb : (v == 0) = false := by simp [hv]
    have FIN : Hid _ := And.intro k2 (And.intro fA (And.intro hr1 (And.intro on0 z2)))
    clear fA hr1 on1 on0 z2 f2 k2
    go_wp2_with fail
    go_meet
    exact ⟨baseFoes, 0, 2, p + 1, rfl, FIN.out.1, FIN.out.2.1, by decide, by decide, by omega, by omega, FIN.out.2.2.1, FIN.out.2.2.2.1, FIN.out.2.2.2.2⟩
 case rest =>
  obtain ⟨fs, o, fc, p1, rfl, kc, fcA, hfl, hfs, hp1, hp2, rc, onc, zc⟩ := hcut
  clear z2 f2 k2 on0 on1 hr1 r1 hv0
  obtain ⟨W2, hW2⟩ : ∃ W, W = wc.alloc (.cells #[.string { data := #[106, 49] }, .string { data := #[106, 50] }, .string { data := #[107, 101, 103] }, .string { data := #[116, 117, 110] }, .string { data := #[118, 97, 116] }] 9) := ⟨_, rfl⟩
  have b2 : Below wc.heap.size wc W2 := by rw [hW2]; exact (Below.refl _ _).alloc (Nat.le_refl _) _
  have n2 : StrsAt W2 (some ⟨wc.heap.size, 0, none⟩) baseNames := strsAt_row baseNames (by rw [hW2]; exact Row.new _ _ _)
  have k2 := kc.later b2
  have f2 : FoesAt W2 (some ⟨w.heap.size + 1, o, none⟩) fs := RowAt.later fcA b2
  have r2 := rc.later b2
  have o2 : Only (fun q => q = Rb) w W2 := onc.trans (Only.of b2)
  have z2 := zc.later b2
  have szc : w.heap.size + 3 ≤ wc.heap.size := by have := kc.lt; omega
  have sz2 : W2.heap.size = wc.heap.size + 1 := by rw [hW2]; simp
  have START : Hid (OwnSpots W2 none ([] : List Spot) (fun _ => none) (fun _ => 0)) := ⟨Or.inl (by simp), fun k hk => absurd hk (by simp), fun k hk => absurd hk (by simp), fun k hk => absurd hk (by simp), fun i j hi => absurd hi (by simp)⟩
  clear kc fcA rc onc zc b2
  go_wp2_with fail
  rw [← hW2]
  have SZ : Hid _ := sz2
  clear hW2 sz2
  go_loopw [5] (fun i wr => ∃ (k : Nat) (sp : List Spot) (A : Nat → Option Addr) (C : Nat → Nat) (d1 : Option Addr) (k1 : Nat) (p' : Int) (X : World), X = wr ∧ k ≤ 5 ∧ i = .int .i64 k ∧ Only (fun q => q = Rb ∨ q = w.heap.size + 1 + 1) W2 X ∧
   Row X (w.heap.size + 1 + 1) 28 [.slice (some ⟨w.heap.size + 1, o, none⟩) fs.length fc, .slice d1 sp.length k1, .slice none 0 0, .slice none 0 0, .int .i64 0] ∧ OwnSpots X d1 sp A C ∧ CapOf X 72 5 d1 sp.length k1 ∧ sp.length ≤ k ∧ (∀ s ∈ sp, TinyS s) ∧
   (∀ y, InAddr d1 y → W2.heap.size ≤ y) ∧ (∀ y, InSp d1 sp A y → W2.heap.size ≤ y) ∧ p1 ≤ p' ∧ p' ≤ p1 + 6 * k ∧ Rd W0 Rb a n cap f X p') (fun i _ => 5 - (intOf i).toNat)
  case atStart =>
   refine ⟨0, [], _, _, none, 0, p1, _, rfl, by omega, rfl, Only.refl _ _, k2, START.out, capOf_nil _ _ _, Nat.le_refl _, (fun s hs => by cases hs), (fun y ⟨o, h⟩ => by cases h), (fun y hy => ?_), Int.le_refl _, by omega, r2⟩
   rcases hy with hy | ⟨k, hk, _⟩
   · exact absurd rfl hy.1
   · exact absurd hk (by simp)
  case round =>
   obtain ⟨k, sp, A, C, d1, k1, p', X, rfl, hk, rfl, hon, rX, own, cap1, hspk, htin, lo, loA, hp3, hp4, rdX⟩ := hrel
   clear START k2 r2
   have szX := hon.size
   by_cases hlt : k < 5
   · have hlt2 : (k : Int) < 5 := by omega
     go_wp2_with fail
     refine (pick_any W0 Rb a n cap f X p' 8 rdX (by omega) (by omega)).mono ?_
     rintro e X1 ⟨⟨v, rfl, hv0, hv1⟩, hr1, on1⟩
     have hne : ∀ y, W2.heap.size ≤ y → ¬ y = Rb := fun y hy e => by have := SZ.out; omega
     have hon1 : Only (fun q => q = Rb ∨ q = w.heap.size + 1 + 1) W2 X1 := hon.trans (on1.mono (fun q hq => Or.inl hq))
     have rX1 := rX.only on1 (by omega)
     have own1 := own.only on1 (fun y hy e => hne y (loA y hy) e)
     have capX := cap1.only on1 (fun y hy e => hne y (lo y hy) e)
     clear rdX on1 hon rX own cap1 hv1
     by_cases hv : v = 0
     · subst hv
       go_wp2
       go_roundw
       case rel => exact ⟨k + 1, sp, _, _, _, _, p' + 1, _, rfl, by omega, by go_num, hon1, rX1, own1, capX, by omega, htin, lo, loA, by omega, by omega, hr1⟩
       case measure => simp [intOf]; omega
     · have hvb : (v == 0) = false := by simp [hv]
       have nmX := RowAt.only n2 hon1 (fun q hq hq' => by obtain ⟨_, o, e⟩ := hq; cases e; omega)
       obtain ⟨bn, on, e, hbn, hcn⟩ := nmX k (by simpa [baseNames] using hlt)
       cases e
       have hcn0 := hcn 0 (by omega)
       simp only [Nat.mul_one, Nat.add_zero, Nat.zero_add] at hcn0
       clear hcn
       obtain ⟨W3, hW3⟩ : ∃ W, W = X1.alloc (.cells #[.string (gs baseNames k), .int .i64 0, .int .i64 0, .int .i64 0, .slice none 0 0] 72) := ⟨_, rfl⟩
       have b3 : Below X1.heap.size X1 W3 := by rw [hW3]; exact (Below.refl _ _).alloc (Nat.le_refl _) _
       have v3 : VarAt W0 Rb a n cap f X1 X1.heap.size 72 W3 (p' + 1) [.string (gs baseNames k), .int .i64 0, .int .i64 0, .int .i64 0, .slice none 0 0] := ⟨by rw [hW3]; exact Row.new _ _ _, hr1.later b3, Only.of b3, Nat.le_refl _, hr1.row.lt⟩
       have nmS : (gs baseNames k).size ≤ 100 := gs_short baseNames_short (by simpa [baseNames] using hlt)
       have PK : Hid _ := And.intro hon1 (And.intro rX1 (And.intro own1 capX))
       clear hon1 rX1 own1 capX hr1 b3
       go_upto_if 36 with fail
       rw [← hW3]
       clear hW3 hcn0
       go_cut [6] (fun q wx => ∃ (s : Spot) (m : Option Addr) (c : Nat) (p'' : Int), q = .pointer (some ⟨X1.heap.size, 0, none⟩) ∧ VarAt W0 Rb a n cap f X1 X1.heap.size 72 wx p'' [.string s.name, .int .i64 s.cap, .int .i64 s.least, .int .i64 s.most, .slice m s.may.length c] ∧
        OwnL wx 9 1 m s.may.length (strF s.may) ∧ s.may.length ≤ c ∧ (∀ y, InSlot m s.may.length y → X1.heap.size < y) ∧ TinyS s ∧ p' + 1 ≤ p'' ∧ p'' ≤ p' + 6)
       case first =>
        by_cases hk1 : 1 < k
        · have hk1b : (1 : Int) < k := by omega
          go_wp2_with fail
          refine (pick_any W0 Rb a n cap f W3 (p' + 1) 40 v3.rd (by omega) (by omega)).mono ?_
          rintro e X2 ⟨⟨c1, rfl, hc10, hc11⟩, hr2, on2⟩
          have v4 := v3.pick hr2 on2
          have e10 : wrap64 (10 + c1) = 10 + c1 := by unfold wrap64; omega
          have e11 : wrap64 (10 + c1 + 1) = 10 + c1 + 1 := by unfold wrap64; omega
          have g1 := v4.row.cell 1 rfl
          have g1f := v4.row.frozen 1
          have v5 := v4.set 1 (.int .i64 (10 + c1))
          clear v3 hr2 on2 v4
          go_wp2_with fail
          refine (pick_any W0 Rb a n cap f _ (p' + 1 + 1) (10 + c1 + 1) v5.rd (by omega) (by omega)).mono ?_
          rintro e X3 ⟨⟨c2, rfl, hc20, hc21⟩, hr3, on3⟩
          have v6 := v5.pick hr3 on3
          simp only [List.set_cons_succ, List.set_cons_zero] at v6
          have g2 := v6.row.cell 2 rfl
          have g2f := v6.row.frozen 2
          have g3 := v6.row.cell 3 rfl
          have g3f := v6.row.frozen 3
          have v7 := (v6.set 2 (.int .i64 c2)).set 3 (.int .i64 c2)
          clear v5 hr3 on3 v6
          go_wp2_with fail
          refine (pick_any W0 Rb a n cap f _ (p' + 1 + 1 + 1) 3 v7.rd (by omega) (by omega)).mono ?_
          rintro e X4 ⟨⟨c3, rfl, hc30, hc31⟩, hr4, on4⟩
          have v8 := v7.pick hr4 on4
          simp only [List.set_cons_succ, List.set_cons_zero] at v8
          have i2 := v8.row.cell 2 rfl
          have i2f := v8.row.frozen 2
          have i3 := v8.row.cell 3 rfl
          have i3f := v8.row.frozen 3
          have i4 := v8.row.cell 4 rfl
          have i4f := v8.row.frozen 4
          clear v7 hr4 on4 g1 g1f g2 g2f g3 g3f
          by_cases hc3 : c3 = 0
          · subst hc3
            have v9 := (v8.set 2 (.int .i64 0)).set 3 (.int .i64 0)
            simp only [List.set_cons_succ, List.set_cons_zero] at v9
            have FIN : Hid _ := v9
            clear v8 v9
            go_wp2_with fail
            go_meet
            exact ⟨⟨gs baseNames k, 10 + c1, 0, 0, []⟩, none, 0, p' + 1 + 1 + 1 + 1, rfl, FIN.out, ownL_zero _ _ _ _ _, Nat.le_refl _, (fun y hy => absurd rfl hy.1), ⟨nmS, by simp, by simp⟩, by omega, by omega⟩
          · have hc3b : (c3 == 0) = false := by simp [hc3]
            by_cases hc2 : 0 < c2
            · obtain ⟨W5, hW5⟩ : ∃ W, W = X4.alloc (.cells #[.string { data := #[97, 108, 101] }, .string { data := #[109, 97, 108, 116] }, .string { data := #[119, 97, 116, 101, 114] }] 9) := ⟨_, rfl⟩
              have b5 : Below X4.heap.size X4 W5 := by rw [hW5]; exact (Below.refl _ _).alloc (Nat.le_refl _) _
              have n5 : StrsAt W5 (some ⟨X4.heap.size, 0, none⟩) baseStuffs := strsAt_row baseStuffs (by rw [hW5]; exact Row.new _ _ _)
              have v9 := v8.later b5
              have szX4 : X1.heap.size < X4.heap.size := v8.row.lt
              have hRX := v8.old
              clear v8 b5
              go_wp2_with fail
              rw [← hW5]
              clear hW5
              refine (of_any W0 Rb a n cap f W5 (p' + 1 + 1 + 1 + 1) v9.rd (by omega) (by omega) (some ⟨X4.heap.size, 0, none⟩) 3 baseStuffs n5 (fun q hq => by obtain ⟨_, o, e⟩ := hq; cases e; omega) (by decide) (by decide)).mono ?_
              rintro e X6 ⟨⟨j, hj, rfl⟩, hr6, on6⟩
              have v10 := v9.pick hr6 on6
              have v10s := v10.set 4 (.slice (some ⟨X6.heap.size, 0, none⟩) 1 1)
              have szY : (X6.setCell ⟨X1.heap.size, 4, none⟩ (.slice (some ⟨X6.heap.size, 0, none⟩) 1 1)).heap.size = X6.heap.size := Go.Deep.nblk_setCell _ _ _
              have b7 : Below (X6.setCell ⟨X1.heap.size, 4, none⟩ (.slice (some ⟨X6.heap.size, 0, none⟩) 1 1)).heap.size (X6.setCell ⟨X1.heap.size, 4, none⟩ (.slice (some ⟨X6.heap.size, 0, none⟩) 1 1)) ((X6.setCell ⟨X1.heap.size, 4, none⟩ (.slice (some ⟨X6.heap.size, 0, none⟩) 1 1)).alloc (.cells #[.string (gs baseStuffs j)] 9)) := (Below.refl _ _).alloc (Nat.le_refl _) _
              have v11 := v10s.later b7
              have szX6 : X1.heap.size < X6.heap.size := v10.row.lt
              have o8 : OwnL ((X6.setCell ⟨X1.heap.size, 4, none⟩ (.slice (some ⟨X6.heap.size, 0, none⟩) 1 1)).alloc (.cells #[.string (gs baseStuffs j)] 9)) 9 1 (some ⟨X6.heap.size, 0, none⟩) 1 (strF [gs baseStuffs j]) := Or.inr ⟨X6.heap.size, _, rfl, Row.new' szY.symm, by simp, fun k hk j' hj' => by
               have e1 : k = 0 := by omega
               have e2 : j' = 0 := by omega
               subst e1; subst e2; rfl⟩
              simp only [List.set_cons_succ, List.set_cons_zero] at v11
              have i4 := v10.row.cell 4 rfl
              have i4f := v10.row.frozen 4
              have sj := gs_short baseStuffs_short hj
              have FIN : Hid _ := And.intro v11 o8
              clear v11 o8 v10 v10s szY b7 v9 hr6 on6
              go_wp2_with fail
              go_meet
              exact ⟨⟨gs baseNames k, 10 + c1, c2, c2, [gs baseStuffs j]⟩, some ⟨X6.heap.size, 0, none⟩, 1, p' + 1 + 1 + 1 + 1 + 1, rfl, FIN.out.1, FIN.out.2, Nat.le_refl _, (fun y hy => by obtain ⟨_, o, e'⟩ := hy; cases e'; omega), ⟨nmS, by simp, fun t ht => by rw [List.mem_singleton.1 ht]; exact sj⟩, by omega, by omega⟩
            · have FIN : Hid _ := v8
              clear v8
              go_wp2_with fail
              go_meet
              exact ⟨⟨gs baseNames k, 10 + c1, c2, c2, []⟩, none, 0, p' + 1 + 1 + 1 + 1, rfl, FIN.out, ownL_zero _ _ _ _ _, Nat.le_refl _, (fun y hy => absurd rfl hy.1), ⟨nmS, by simp, by simp⟩, by omega, by omega⟩
        · have hk1b : ¬ (1 : Int) < k := by omega
          have FIN : Hid _ := v3
          clear v3
          go_wp2_with fail
          go_meet
          exact ⟨⟨gs baseNames k, 0, 0, 0, []⟩, none, 0, p' + 1, rfl, FIN.out, ownL_zero _ _ _ _ _, Nat.le_refl _, (fun y hy => absurd rfl hy.1), ⟨nmS, by simp, by simp⟩, by omega, by omega⟩
       case rest =>
        obtain ⟨s, m, c, p'', rfl, vS, oS, cS, loS, tS, hp5, hp6⟩ := hcut
        obtain ⟨hon1, rX1, own1, capX⟩ := PK.out
        clear PK v3
        have hRX := vS.old
        have szX1 := hon1.size
        have rXc := rX1.only vS.on (by omega)
        have ownc := own1.only vS.on (fun y hy e => hne y (loA y hy) e)
        have capc := capX.only vS.on (fun y hy e => hne y (lo y hy) e)
        have ltS : ∀ y, InSp d1 sp A y → y < X1.heap.size := fun y hy => own1.lt hy
        have ltC : ∀ y, InAddr d1 y → y < X1.heap.size := fun y hy => capX.lt hy
        have honc : Only (fun q => q = Rb ∨ q = w.heap.size + 1 + 1) W2 _ := hon1.trans (vS.on.mono (fun q hq => Or.inl hq))
        clear hon1 rX1 own1 capX
        obtain ⟨W5, hW5⟩ : ∃ W, W = wc.alloc (.cells #[.string s.name, .int .i64 s.cap, .int .i64 s.least, .int .i64 s.most, .slice m s.may.length c] 72) := ⟨_, rfl⟩
        have bW5 : Below wc.heap.size wc W5 := by rw [hW5]; exact (Below.refl _ _).alloc (Nat.le_refl _) _
        have own5 := ownc.later bW5
        have cap5 := capc.later bW5
        have oS5 := oS.later bW5
        have rE : Row W5 wc.heap.size 72 [.string s.name, .int .i64 s.cap, .int .i64 s.least, .int .i64 s.most, .slice m s.may.length c] := by rw [hW5]; exact Row.new _ _ _
        have hE : RowAt W5 (some ⟨wc.heap.size, 0, none⟩) 1 5 (fun _ => spotCell s m c) := by
         intro q hq
         have e0 : q = 0 := by omega
         subst e0
         refine ⟨_, _, rfl, rE.lt, fun j hj => ?_⟩
         match j, hj with
         | 0, _ => exact rE.cell 0 rfl
         | 1, _ => exact rE.cell 1 rfl
         | 2, _ => exact rE.cell 2 rfl
         | 3, _ => exact rE.cell 3 rfl
         | 4, _ => exact rE.cell 4 rfl
        have rB5 := rXc.later bW5
        have vS5 := vS.later bW5
        have hon5 : Only (fun q => q = Rb ∨ q = w.heap.size + 1 + 1) W2 W5 := honc.trans (Only.of bW5)
        have szc2 : W2.heap.size ≤ wc.heap.size := honc.size
        have szW5 : wc.heap.size ≤ W5.heap.size := bW5.size
        have j1 := rXc.cell 1 rfl
        have q0 := vS.row.cell 0 rfl
        have q1 := vS.row.cell 1 rfl
        have q2 := vS.row.cell 2 rfl
        have q3 := vS.row.cell 3 rfl
        have q4 := vS.row.cell 4 rfl
        have orow := own5.row
        rw [hW5] at orow cap5 hE
        have HO : Hid _ := And.intro own5 (And.intro oS5 (And.intro rB5 (And.intro vS5 hon5)))
        clear own5 oS5 rB5 vS5 hon5 bW5 ownc capc oS rXc vS honc rE
        go_wp2_with (at_builtin; refine wpList_append_row (by rfl) _ _ (by rfl) sliceSpot d1 sp.length k1 _ (by rfl) orow cap5 (some ⟨wc.heap.size, 0, none⟩) 1 1 (fun _ => spotCell s m c) (by rfl) hE (fun _ j => oneSpot _ _ _ j) (by omega) ?_)
        rw [← hW5]
        intro a'' c'' w6 apd
        obtain ⟨own5, oS5, rB5, vS5, hon5⟩ := HO.out
        have sn := own5.snoc apd oS5 cS (fun y hy hy' => by have := loS y hy; have := ltC y hy'; omega) (fun j hj y hy hy' => by have := loS y hy; have := ltS y (Or.inr ⟨j, hj, hy'⟩); omega)
        have capN := apd.cap
        have hnB : ¬ InAddr d1 (w.heap.size + 1 + 1) := fun h => by have := lo _ h; have := SZ.out; omega
        have rB6 := rB5.only apd.only hnB
        have rd6 := vS5.rd.only apd.only (fun q hq => by have := lo q hq; have := SZ.out; omega)
        have on6 := hon5.next apd.only (fun q hq hq' => by have := lo q hq; omega)
        have lo6 : ∀ y, InAddr a'' y → W2.heap.size ≤ y := fun y hy => by
         rcases apd.at_ y hy with h | h
         · exact lo y h
         · omega
        have loA6 : ∀ y, InSp a'' (sp ++ [s]) (fun k => if k = sp.length then m else A k) y → W2.heap.size ≤ y := fun y hy => by
         rcases hy with hy | ⟨j, hj, hy⟩
         · exact lo6 y hy.2
         · by_cases e : j = sp.length
           · subst e
             simp only [if_true] at hy
             have e2 : gp (sp ++ [s]) sp.length = s := by unfold gp; simp
             rw [e2] at hy
             have := loS y hy
             omega
           · simp only [if_neg e] at hy
             have hj' : j < sp.length := by simp at hj; omega
             have e2 : gp (sp ++ [s]) j = gp sp j := by unfold gp; simp [List.getElem?_append, hj']
             rw [e2] at hy
             exact loA y (Or.inr ⟨j, hj', hy⟩)
        have oc : Only (fun q => q = w.heap.size + 1 + 1) w6 (w6.setCell ⟨w.heap.size + 1 + 1, 1, none⟩ (.slice a'' (sp.length + 1) c'')) := Only.cell _ ⟨w.heap.size + 1 + 1, 1, none⟩ _
        have hlen : (sp ++ [s]).length = sp.length + 1 := by simp
        have rB7 : Row (w6.setCell ⟨w.heap.size + 1 + 1, 1, none⟩ (.slice a'' (sp.length + 1) c'')) (w.heap.size + 1 + 1) 28 [.slice (some ⟨w.heap.size + 1, o, none⟩) fs.length fc, .slice a'' (sp ++ [s]).length c'', .slice none 0 0, .slice none 0 0, .int .i64 0] := by
         rw [hlen]; exact rB6.set 1 (.slice a'' (sp.length + 1) c'')
        rw [← hlen] at capN
        have sn7 := sn.only oc (fun y hy e => by have := loA6 y hy; have := SZ.out; have : y = w.heap.size + 1 + 1 := e; omega)
        have cap7 := capN.only oc (fun y hy e => by have := lo6 y hy; have := SZ.out; have : y = w.heap.size + 1 + 1 := e; omega)
        have rd7 := rd6.only oc (fun q hq => by have : q = w.heap.size + 1 + 1 := hq; omega)
        have on7 := on6.trans (oc.mono (fun q hq => Or.inr hq))
        have ht7 : ∀ t ∈ sp ++ [s], TinyS t := fun t ht => by
         rcases List.mem_append.1 ht with h | h
         · exact htin t h
         · rw [List.mem_singleton.1 h]; exact tS
        have FIN : Hid _ := And.intro rB7 (And.intro sn7 (And.intro cap7 (And.intro rd7 (And.intro on7 (And.intro ht7 (And.intro lo6 loA6))))))
        have HL : Hid _ := hlen
        have B1 := rB6.cell 1 rfl
        have B1f := rB6.frozen 1
        clear rB7 sn7 cap7 rd7 on7 ht7 lo6 loA6 hlen oc sn capN rB6 rd6 on6 apd own5 oS5 rB5 vS5 hon5 HO orow cap5 hE hW5 j1 q0 q1 q2 q3 q4
        go_wp2
        go_roundw
        case rel => exact ⟨k + 1, sp ++ [s], _, _, _, _, p'', _, rfl, by omega, by go_num, FIN.out.2.2.2.2.1, FIN.out.1, FIN.out.2.1, FIN.out.2.2.1, by have := HL.out; omega, FIN.out.2.2.2.2.2.1, FIN.out.2.2.2.2.2.2.1, FIN.out.2.2.2.2.2.2.2, by omega, by omega, FIN.out.2.2.2.1⟩
        case measure => simp [intOf]; omega
   · have ek : k = 5 := by omega
     subst ek
     have START : Hid _ := And.intro own (And.intro cap1 (And.intro lo (And.intro loA htin)))
     obtain ⟨W4, hW4⟩ : ∃ W, W = X.alloc (.cells #[.string { data := #[97] }, .string { data := #[98] }, .string { data := #[99] }, .string { data := #[100] }, .string { data := #[101] }, .string { data := #[102] }] 9) := ⟨_, rfl⟩
     have b4 : Below X.heap.size X W4 := by rw [hW4]; exact (Below.refl _ _).alloc (Nat.le_refl _) _
     have n4 : StrsAt W4 (some ⟨X.heap.size, 0, none⟩) baseValves := strsAt_row baseValves (by rw [hW4]; exact Row.new _ _ _)
     have rB4 := rX.later b4
     have rd4 := rdX.later b4
     have sz4 : X.heap.size < W4.heap.size := by rw [hW4]; simp
     have BEFORE : Hid _ := And.intro own (And.intro lo (And.intro loA (And.intro htin (And.intro hon b4))))
     clear own cap1 rdX b4 START rX
     go_wp2_with fail
     rw [← hW4]
     clear hW4
     go_loopw [8] (fun i wr => ∃ (k : Nat) (vs : List ByteArray) (d2 : Option Addr) (k2 : Nat) (p'' : Int) (X2 : World), X2 = wr ∧ k ≤ 6 ∧ i = .int .i64 k ∧ Only (fun q => q = Rb ∨ q = w.heap.size + 1 + 1) W4 X2 ∧
      Row X2 (w.heap.size + 1 + 1) 28 [.slice (some ⟨w.heap.size + 1, o, none⟩) fs.length fc, .slice d1 sp.length k1, .slice d2 vs.length k2, .slice none 0 0, .int .i64 0] ∧ OwS W4.heap.size X2 vs d2 k2 ∧ vs.length ≤ k ∧ (∀ s ∈ vs, s.size ≤ 100) ∧ p' ≤ p'' ∧ p'' ≤ p' + k ∧ Rd W0 Rb a n cap f X2 p'') (fun i _ => 6 - (intOf i).toNat)
     case atStart => exact ⟨0, [], none, 0, p', _, rfl, by omega, rfl, Only.refl _ _, rB4, ⟨ownL_zero _ _ _ _ _, capOf_nil _ _ _, (fun y ⟨o, h⟩ => by cases h)⟩, Nat.le_refl _, (fun s hs => by cases hs), Int.le_refl _, by omega, rd4⟩
     case round =>
      obtain ⟨k, vs, d2, k2, p'', X2, rfl, hk, rfl, hon2, rX2, own2, hvk, hvt, hp5, hp6, rdX2⟩ := hrel
      clear rB4 rd4
      have szX2 := hon2.size
      by_cases hlt : k < 6
      · have hlt2 : (k : Int) < 6 := by omega
        go_wp2_with fail
        refine (pick_any W0 Rb a n cap f X2 p'' 8 rdX2 (by omega) (by omega)).mono ?_
        rintro e X3 ⟨⟨v, rfl, hv0, hv1⟩, hr3, on3⟩
        have hne : ∀ y, W4.heap.size ≤ y → ¬ y = Rb := fun y hy e => by have := SZ.out; omega
        have hon3 : Only (fun q => q = Rb ∨ q = w.heap.size + 1 + 1) W4 X3 := hon2.trans (on3.mono (fun q hq => Or.inl hq))
        have rX3 := rX2.only on3 (by omega)
        have own3 := own2.only on3 (fun y hy e => hne y (own2.lo y hy) e)
        clear rdX2 on3 hon2 rX2 own2 hv1
        by_cases hv : 0 < v
        · skip
          have nmX := RowAt.only n4 hon3 (fun q hq hq' => by obtain ⟨_, o, e⟩ := hq; cases e; have := SZ.out; omega)
          obtain ⟨bn, on, e, hbn, hcn⟩ := nmX k (by simpa [baseValves] using hlt)
          cases e
          have hcn0 := hcn 0 (by omega)
          simp only [Nat.mul_one, Nat.add_zero, Nat.zero_add] at hcn0
          have hn2 := rX3.cell 2 rfl
          have hnB : ¬ InAddr d2 (w.heap.size + 1 + 1) := fun h => by have := own3.lo _ h; have := SZ.out; omega
          have hnN : ∀ q, InAddr d2 q → q ≠ X.heap.size := fun q h e => by have := own3.lo _ h; omega
          have hS : ∀ W, Below X3.heap.size X3 W → (W.cell? ⟨w.heap.size + 1 + 1, 2, none⟩ = some (.slice d2 vs.length k2) ∧ W.cell? ⟨X.heap.size, k, none⟩ = some (.string (gs baseValves k))) := fun W h => ⟨cell_later h hn2, cell_later h hcn0⟩
          have hS0 := hS X3.drew (Below.drew (Below.refl _ _))
          have hOwn : ∀ W, Below X3.heap.size X3 W → OwnL W 9 1 d2 vs.length (strF vs) ∧ CapOf W 9 1 d2 vs.length k2 := fun W h => ⟨own3.own.later h, own3.cap.later h⟩
          have bXX := Below.refl X3.heap.size X3
          have KEEP : Hid _ := And.intro hon3 (And.intro rX3 (And.intro own3 (And.intro hr3 hnB)))
          clear hcn nmX hon3 rX3 own3 hr3 hnB
          go_wp2_with fail
          refine wp_region_E (fun W => W.cell? ⟨w.heap.size + 1 + 1, 2, none⟩ = some (.slice d2 vs.length k2) ∧ W.cell? ⟨X.heap.size, k, none⟩ = some (.string (gs baseValves k))) 9 (by kernel_rfl) ?_
          refine tk 0 ?vav0 rfl (by kernel_rfl) (fun _ _ _ h => h) (by rfl) hS0 ?yav0 ?rav0
          case yav0 => intro w' h; (try dsimp only at h); go_simp; (try with_reducible rfl)
          try simp only [Act.put, sA, sB, sC]
          refine tk 1 ?vav1 rfl (by kernel_rfl) (fun _ _ _ h => h) (by rfl) hS0 ?yav1 ?rav1
          case yav1 => intro w' h; (try dsimp only at h); go_simp; (try with_reducible rfl)
          try simp only [Act.put, sA, sB, sC]
          refine tk 2 ?vav2 rfl (by kernel_rfl) (fun _ _ _ h => h) (by rfl) hS0 ?yav2 ?rav2
          case yav2 => intro w' h; (try dsimp only at h); go_simp; (try with_reducible rfl)
          try simp only [Act.put, sA, sB, sC]
          refine tk 3 ?vav3 rfl (by kernel_rfl) (fun _ _ _ h => h) (by rfl) hS0 ?yav3 ?rav3
          case yav3 => intro w' h; (try dsimp only at h); go_simp; (try with_reducible rfl)
          try simp only [Act.put, sA, sB, sC]
          refine tk 4 ?vav4 rfl (by kernel_rfl) (fun _ _ _ h => h) (by rfl) hS0 ?yav4 ?rav4
          case yav4 => intro w' h; (try dsimp only at h); go_simp; (try with_reducible rfl)
          try simp only [Act.put, sA, sB, sC]
          refine tk 5 ?vav5 rfl (by kernel_rfl) (fun _ _ _ h => h) (by rfl) hS0 ?yav5 ?rav5
          case yav5 => intro w' h; (try dsimp only at h); go_simp; (try with_reducible rfl)
          try simp only [Act.put, sA, sB, sC]
          refine wpAnyE_oneC (i := 6) rfl (by kernel_rfl) ?_
          intro K hK
          rw [if_pos (by rfl)]
          go_wp2_with fail
          refine hK.out _ _ (fun _ => hS _ (by (repeat (first | assumption | exact Below.refl _ _ | refine Below.drew ?_ | refine Below.alloc ?_ (by (try simp); (try omega)) _ | refine Below.setCell ?_ (by (try simp); (try omega)) _)))) ?_
          clear hK K
          try simp only [Act.put, sA, sB, sC]
          refine wpAnyE_oneC (i := 7) rfl (by kernel_rfl) ?_
          intro K hK
          refine step_append_row (by rfl) _ _ (by rfl) sliceStr d2 vs.length k2 _ (by rfl) (hOwn _ (by (repeat (first | assumption | exact Below.refl _ _ | refine Below.drew ?_ | refine Below.alloc ?_ (by (try simp); (try omega)) _ | refine Below.setCell ?_ (by (try simp); (try omega)) _)))).1 (hOwn _ (by (repeat (first | assumption | exact Below.refl _ _ | refine Below.drew ?_ | refine Below.alloc ?_ (by (try simp); (try omega)) _ | refine Below.setCell ?_ (by (try simp); (try omega)) _)))).2 (some ⟨X3.heap.size, 0, none⟩) 1 1 (fun _ _ => .string (gs baseValves k)) (by rfl) (rowAt_one (t := 9) (Row.new' (by simp))) (fun _ _ => rfl) (by omega) ?_
          intro a'' c'' w6 apd
          have hw5 : ∃ W5 : World, Below X3.heap.size X3 W5 ∧ Appended 9 1 W5 w6 d2 vs.length 1 (strF vs) (fun _ _ => .string (gs baseValves k)) a'' c'' := ⟨_, (by (repeat (first | assumption | exact Below.refl _ _ | refine Below.drew ?_ | refine Below.alloc ?_ (by (try simp); (try omega)) _ | refine Below.setCell ?_ (by (try simp); (try omega)) _))), apd⟩
          clear apd
          obtain ⟨W5, hb5, apd⟩ := hw5
          obtain ⟨hon3, rX3, own3, hr3, hnB⟩ := KEEP.out
          have rB5 := rX3.later hb5
          have own5 := own3.later hb5
          have hr5 := hr3.later hb5
          have hon5 : Only (fun q => q = Rb ∨ q = w.heap.size + 1 + 1) W4 W5 := hon3.trans (Only.of hb5)
          have rB6 := rB5.only apd.only hnB
          have sn := own5.snoc hon5.size apd
          have hr6 := hr5.only apd.only (fun q hq => by have := own5.lo q hq; have := SZ.out; omega)
          have on6 := hon5.next apd.only (fun q hq hq' => by have := own5.lo q hq; omega)
          have c6 := cell_only apd.only (cell_later hb5 hcn0) (by have := hb5.size; omega) (fun h => hnN _ h rfl)
          have q2 := rB6.cell 2 rfl
          have q2f := rB6.frozen 2
          have hS6 : w6.cell? ⟨w.heap.size + 1 + 1, 2, none⟩ = some (.slice d2 vs.length k2) ∧ w6.cell? ⟨X.heap.size, k, none⟩ = some (.string (gs baseValves k)) := ⟨q2, c6⟩
          have hlen : (vs ++ [gs baseValves k]).length = vs.length + 1 := by simp
          have rB7 : Row (w6.setCell ⟨w.heap.size + 1 + 1, 2, none⟩ (.slice a'' (vs.length + 1) c'')) (w.heap.size + 1 + 1) 28 [.slice (some ⟨w.heap.size + 1, o, none⟩) fs.length fc, .slice d1 sp.length k1, .slice a'' (vs ++ [gs baseValves k]).length c'', .slice none 0 0, .int .i64 0] := by rw [hlen]; exact rB6.set 2 (.slice a'' (vs.length + 1) c'')
          have oc : Only (fun q => q = w.heap.size + 1 + 1) w6 (w6.setCell ⟨w.heap.size + 1 + 1, 2, none⟩ (.slice a'' (vs.length + 1) c'')) := Only.cell _ ⟨w.heap.size + 1 + 1, 2, none⟩ _
          have sn7 := sn.only oc (fun y hy e => by have := sn.lo y hy; have := SZ.out; have : y = w.heap.size + 1 + 1 := e; omega)
          have rd7 := hr6.only oc (fun q hq => by have : q = w.heap.size + 1 + 1 := hq; omega)
          have on7 := on6.trans (oc.mono (fun q hq => Or.inr hq))
          have ht7 : ∀ t ∈ vs ++ [gs baseValves k], t.size ≤ 100 := fun t ht => by
           rcases List.mem_append.1 ht with h | h
           · exact hvt t h
           · rw [List.mem_singleton.1 h]; exact gs_short baseValves_short (by simpa [baseValves] using hlt)
          have FIN : Hid _ := And.intro rB7 (And.intro sn7 (And.intro rd7 (And.intro on7 ht7)))
          have HL : Hid _ := hlen
          clear rB7 sn7 rd7 on7 ht7 oc sn hr6 on6 rB6 apd hb5 own5 hr5 hon5 rB5 hon3 rX3 own3 hr3 hnB KEEP hOwn hS hlen
          refine hK.out _ _ (fun _ => hS6) ?_
          clear hK K
          try simp only [Act.put, sA, sB, sC]
          refine wpAnyE_oneC (i := 8) rfl (by kernel_rfl) ?_
          intro K hK
          rw [if_pos (by rfl)]
          go_wp2_with fail
          refine hK.out _ _ (fun _ => hS6) ?_
          clear hK K
          try simp only [Act.put, sA, sB, sC]
          refine wpAnyE_oneC (i := 9) rfl (by kernel_rfl) ?_
          intro K hK
          rw [if_pos (by rfl)]
          go_wp2_with fail
          refine hK.out _ _ (fun h => absurd rfl h) ?_
          clear hK K
          try simp only [Act.put, sA, sB, sC]
          refine wpAnyE_done (by kernel_rfl) ?_ _
          clear hS6 hS0 q2 q2f c6 bXX
          go_wp2
          go_roundw
          case rel => (repeat apply Exists.intro); exact ⟨⟨k + 1, vs ++ [gs baseValves k], _, _, p'' + 1, _, rfl, by omega, by go_num, FIN.out.2.2.2.1, FIN.out.1, FIN.out.2.1, by have := HL.out; omega, FIN.out.2.2.2.2, by omega, by omega, FIN.out.2.2.1⟩, rfl⟩
          case measure => simp [intOf]; omega
        · go_wp2
          go_roundw
          case rel => (repeat apply Exists.intro); exact ⟨⟨k + 1, vs, _, _, p'' + 1, _, rfl, by omega, by go_num, hon3, rX3, own3, by omega, hvt, by omega, by omega, hr3⟩, rfl⟩
          case measure => simp [intOf]; omega
      · obtain ⟨own, lo, loA, htin, hon, b4⟩ := BEFORE.out
        have hSZ := SZ.out
        have hb4 := b4.size
        have nF : ∀ q, InSlot (some ⟨w.heap.size + 1, o, none⟩) fs.length q → q = w.heap.size + 1 := fun q hq => by obtain ⟨_, o', e⟩ := hq; cases e; rfl
        have fA2 : FoesAt X2 (some ⟨w.heap.size + 1, o, none⟩) fs := RowAt.only (RowAt.later (RowAt.only f2 hon (fun q hq h => by have := nF q hq; omega)) b4) hon2 (fun q hq h => by have := nF q hq; omega)
        have own2s := (own.later b4).only hon2 (fun y hy h => by have := loA y hy; omega)
        have z2X := ((z2.only hon (by omega)).later b4).only hon2 (by omega)
        have onF : Only (fun q => q = Rb) w X2 := ((o2.next hon (fun q hq hq' => by rcases hq with h | h; exact h; omega)).trans (Only.of b4)).next hon2 (fun q hq hq' => by rcases hq with h | h; exact h; omega)
        have dr : DrB (w.heap.size + 1) X2 ⟨fs, sp, vs, [], 0⟩ (some ⟨w.heap.size + 1, o, none⟩) d1 d2 none :=
         ⟨fA2, fun q hq => by have := nF q hq; omega, ⟨A, C, own2s.row.rowAt, fun k hk => ⟨(own2s.may k hk).rowAt, fun q hq => by have := loA q (Or.inr ⟨k, hk, hq⟩); omega⟩, own2s.cap⟩, fun q hq => by have := loA q (Or.inl hq); omega,
          own2.own.rowAt, fun q hq => by have := own2.lo q hq.2; omega, ⟨fun _ _ => none, fun _ _ => 0, fun k hk => absurd hk (Nat.not_lt_zero _), fun k hk => absurd hk (Nat.not_lt_zero _)⟩, From.zero _ _⟩
        have tiny : Tiny ⟨fs, sp, vs, [], 0⟩ := ⟨⟨by show fs.length ≤ 100; omega, hfs⟩, ⟨by show sp.length ≤ 100; omega, htin⟩, ⟨by show vs.length ≤ 100; omega, hvt⟩, ⟨Nat.zero_le _, fun q hq => by cases hq⟩⟩
        have g0 := rX2.cell 0 rfl
        have g1 := rX2.cell 1 rfl
        have g2 := rX2.cell 2 rfl
        have g3 := rX2.cell 3 rfl
        have g4 := rX2.cell 4 rfl
        have r0 := z2X.cell 0 rfl
        have r1 := z2X.cell 1 rfl
        have r2 := z2X.cell 2 rfl
        have r3 := z2X.cell 3 rfl
        have r4 := z2X.cell 4 rfl
        have l0 := z2X.frozen 0
        have l1 := z2X.frozen 1
        have l2 := z2X.frozen 2
        have l3 := z2X.frozen 3
        have l4 := z2X.frozen 4
        have oc : ∀ v0 v1 v2 v3 v4, Only (fun q => q = w.heap.size) X2 (((((X2.setCell ⟨w.heap.size, 0, none⟩ v0).setCell ⟨w.heap.size, 1, none⟩ v1).setCell ⟨w.heap.size, 2, none⟩ v2).setCell ⟨w.heap.size, 3, none⟩ v3).setCell ⟨w.heap.size, 4, none⟩ v4) := fun v0 v1 v2 v3 v4 =>
         (((((Only.refl (fun q => q = w.heap.size) X2).set (b := w.heap.size) rfl 0 v0).set rfl 1 v1).set rfl 2 v2).set rfl 3 v3).set rfl 4 v4
        have FIN : Hid _ := And.intro dr (And.intro rdX2 (And.intro onF oc))
        clear dr rdX2 onF oc own own2s hon hon2 own2 fA2 z2X BEFORE b4 n4 n2 f2 z2
        have hlt2 : ¬ (k : Int) < 6 := by omega
        go_wp2
        refine bodyPost_ret (v := .agg #[.slice (some ⟨w.heap.size + 1, o, none⟩) fs.length fc, .slice d1 sp.length k1, .slice d2 vs.length k2, .slice none 0 0, .int .i64 0])
         (by simp [results, Tryz.results116, go_sem, r0, r1, r2, r3, r4]) rfl ⟨⟨⟨fs, sp, vs, [], 0⟩, _, d1, d2, none, fc, k1, k2, 0, p'', rfl, ?_, tiny, by omega, by omega, ?_⟩, ?_⟩
        · exact (FIN.out.1.low (FIN.out.2.2.2 _ _ _ _ _) (fun q hq => by have : q = w.heap.size := hq; omega)).mono (by omega)
        · exact FIN.out.2.1.only (FIN.out.2.2.2 _ _ _ _ _) (fun q hq => by have : q = w.heap.size := hq; omega)
        · exact FIN.out.2.2.1.next (FIN.out.2.2.2 _ _ _ _ _) (fun q hq hq' => by have : q = w.heap.size := hq; omega)

end Go.Proofs.YtfmhkicncgccjaaGreat

