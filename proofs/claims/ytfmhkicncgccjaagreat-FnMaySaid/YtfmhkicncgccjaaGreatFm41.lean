/- Joined: BkM4, BkM5, BkI1, BkP, BkQ. -/
import Derived.BigRegion
import Derived.Test.YtfmhkicncgccjaaGreatFm40
import Derived.Test.YtfmhkicncgccjaaGreatFm17
import Derived.Test.YtfmhkicncgccjaaGreatFm20
import Derived.Test.YtfmhkicncgccjaaGreatFm38
import Derived.Test.YtfmhkicncgccjaaGreatFm39
/- The program adds what a want uses to the map. -/
namespace Go.Proofs.YtfmhkicncgccjaaGreat
open Go.RowKit Go.Sort Go.Maps
set_option linter.unusedSimpArgs false
set_option linter.unusedVariables false
set_option maxRecDepth 100000

/-- The map's counts behind the first k of some names. -/
def bumps (f : Int → ByteArray → Nat) (way : Int) (ss : List ByteArray) : Nat → Int → ByteArray → Nat
 | 0 => f
 | k + 1 => bump (bumps f way ss k) way (gs ss k)

theorem bumps_le {f : Int → ByteArray → Nat} {n : Nat} (hf : ∀ y m, f y m ≤ n) (way : Int) (ss : List ByteArray) : ∀ (k : Nat) y m, bumps f way ss k y m ≤ n + k
 | 0, y, m => hf y m
 | k + 1, y, m => by
  have := bumps_le hf way ss k y m
  unfold bumps bump
  split <;> omega

theorem wrap_small {c : Nat} (h : c ≤ 100000) : wrap64 ((c : Int) + 1) = (c : Int) + 1 := by
 unfold wrap64; omega

set_option maxHeartbeats 4000000 in
theorem addUsed_any (bm n : Nat) (f : Int → ByteArray → Nat) (y : Want) (a2 a3 a4 a5 : Option Addr) (c2 c3 c4 c5 : Nat) (w0 w : World) (hbw : Below w0.heap.size w0 w) (hbm : w0.heap.size ≤ bm) (hu : UsedIn w bm n f) (hn : n ≤ 1000) (hf : ∀ y m, f y m ≤ n) (h3 : y.uses.length ≤ 20) (h4 : y.opens.length ≤ 20) (h5 : y.shuts.length ≤ 20) (hy : WantIn w0 y a2 a3 a4 a5) (fy : WantFit y) :
 Calls Tryz.prog 107 #[.map (some bm), wantW y a2 a3 a4 a5 c2 c3 c4 c5] w fun e w' => e = .returned (.tuple #[]) ∧ Below w0.heap.size w0 w' ∧ UsedIn w' bm (n + y.uses.length + y.opens.length + y.shuts.length) (bumps (bumps (bumps f 0 (usesN y) y.uses.length) 1 y.opens y.opens.length) 2 y.shuts y.shuts.length) := by
 unfold wantW
 have b0 : Below w.heap.size w (w.alloc (.cells #[.int .i64 y.number, .int .i64 y.kind, .slice a2 y.stuffs.length c2, .slice a3 y.uses.length c3, .slice a4 y.opens.length c4, .slice a5 y.shuts.length c5] 38)) := (Below.refl _ _).alloc (Nat.le_refl _) _
 have o0 : Row (w.alloc (.cells #[.int .i64 y.number, .int .i64 y.kind, .slice a2 y.stuffs.length c2, .slice a3 y.uses.length c3, .slice a4 y.opens.length c4, .slice a5 y.shuts.length c5] 38)) w.heap.size 38 (wantL y a2 a3 a4 a5 c2 c3 c4 c5) := Row.new w 38 (wantL y a2 a3 a4 a5 c2 c3 c4 c5)
 have hne : w.heap.size ≠ bm := by have := hu.lt; omega
 have hbw0 := hbw.trans (b0.mono hbw.size)
 have hu0 := hu.later b0
 go_enter Tryz.func107, Tryz.ntmps107
 go_wp2
 go_loopw [5, 13] (fun _ i wr => ∃ (k : Nat), k ≤ y.uses.length ∧ i = .int .i64 k ∧ UsedIn wr bm (n + k) (bumps f 0 (usesN y) k) ∧ Below w0.heap.size w0 wr ∧ Row wr w.heap.size 38 (wantL y a2 a3 a4 a5 c2 c3 c4 c5)) (fun _ i _ => y.uses.length - (intOf i).toNat)
 case atStart => exact ⟨0, Nat.zero_le _, rfl, hu0, hbw0, o0⟩
 case round wr =>
  clear hu0 hbw0 o0 b0
  obtain ⟨k, hk, rfl, huk, hbk, ok⟩ := hrel
  by_cases hlt : k < y.uses.length
  · obtain ⟨b, o, ha, hb, hc0, hc1, hc2⟩ := (hy.later hbk).uses.at hlt
    have hsz : (gu y.uses k).name.size ≤ maxLen := fy.usesNames _ (by rw [gu_lt hlt]; exact List.getElem_mem hlt)
    have hgs : gs (usesN y) k = (gu y.uses k).name := by unfold gs; rw [List.getD_eq_getElem?_getD, usesN_at hlt]; rfl
    have hba : Below wr.heap.size wr (wr.alloc (.cells #[.string (gu y.uses k).name, .int .i64 (gu y.uses k).role, .int .i64 (gu y.uses k).amount] 101)) := (Below.refl _ _).alloc (Nat.le_refl _) _
    have ok1 := ok.later hba
    have hle := bumps_le hf 0 (usesN y) k 0 (gu y.uses k).name
    obtain ⟨st, w1, w2, e1, e2, e3, e4, e5, e6⟩ := (UsedIn.kept (w' := (wr.alloc (.cells #[.string (gu y.uses k).name, .int .i64 (gu y.uses k).role, .int .i64 (gu y.uses k).amount] 101)).drew) (huk.later hba) rfl).bump (by unfold maxLen; omega) 0 (by decide) (gu y.uses k).name hsz (by omega)
    unfold usedV at e1 e2 e3
    rw [← wrap_small (by omega)] at e4
    have HR : Hid (UsedIn w2 bm (n + (k + 1)) (bumps f 0 (usesN y) (k + 1)) ∧ Below w0.heap.size w0 w2 ∧ Row w2 w.heap.size 38 (wantL y a2 a3 a4 a5 c2 c3 c4 c5)) := by
     refine ⟨?_, ?_, ?_⟩
     · show UsedIn w2 bm (n + k + 1) (bump (bumps f 0 (usesN y) k) 0 (gs (usesN y) k))
       rw [hgs]; exact e5
     · have hb1 := hbk.trans (hba.mono hbk.size)
       exact Below.grown (w := (wr.alloc (.cells #[.string (gu y.uses k).name, .int .i64 (gu y.uses k).role, .int .i64 (gu y.uses k).amount] 101)).drew) hb1.drew e6 hb1.size (fun j hj => by cases hj; exact hbm)
     · exact (e6.block _ ok1.lt (fun e => hne (by injection e))).trans ok1
    clear e5 e6 ok1 hle hgs hsz hba huk ok
    subst ha
    go_wp2
    go_region
    all_goals
     go_wp2
     go_roundw
     case rel => exact ⟨k + 1, by omega, by go_num, HR.out.1, HR.out.2.1, HR.out.2.2⟩
     case measure => simp [intOf]; omega
  · have hkk : k = y.uses.length := by omega
    subst hkk
    clear hlt hk
    have hf1 := bumps_le hf 0 (usesN y) y.uses.length
    have z4 := ok.cell 4 rfl
    go_wp2
    go_loopw [7, 29] (fun _ i wr => ∃ (k : Nat), k ≤ y.opens.length ∧ i = .int .i64 k ∧ UsedIn wr bm (n + y.uses.length + k) (bumps (bumps f 0 (usesN y) y.uses.length) 1 y.opens k) ∧ Below w0.heap.size w0 wr ∧ Row wr w.heap.size 38 (wantL y a2 a3 a4 a5 c2 c3 c4 c5)) (fun _ i _ => y.opens.length - (intOf i).toNat)
    case atStart => exact ⟨0, Nat.zero_le _, rfl, huk, hbk, ok⟩
    case round wr =>
     clear huk hbk ok z4
     obtain ⟨k, hk, rfl, huk, hbk, ok⟩ := hrel
     by_cases hlt : k < y.opens.length
     · obtain ⟨b, o, ha, hb, hc⟩ := (hy.later hbk).opens.at hlt
       have hsz : (gs y.opens k).size ≤ maxLen := fy.opens.2 _ (by rw [gs_lt hlt]; exact List.getElem_mem hlt)
       have hle := bumps_le hf1 1 y.opens k 1 (gs y.opens k)
       obtain ⟨st, w1, w2, e1, e2, e3, e4, e5, e6⟩ := (UsedIn.kept (w' := wr.drew) huk rfl).bump (by unfold maxLen; omega) 1 (by decide) (gs y.opens k) hsz (by omega)
       unfold usedV at e1 e2 e3
       rw [← wrap_small (by omega)] at e4
       have HR : Hid (UsedIn w2 bm (n + y.uses.length + (k + 1)) (bumps (bumps f 0 (usesN y) y.uses.length) 1 y.opens (k + 1)) ∧ Below w0.heap.size w0 w2 ∧ Row w2 w.heap.size 38 (wantL y a2 a3 a4 a5 c2 c3 c4 c5)) :=
        ⟨e5, Below.grown (w := wr.drew) hbk.drew e6 hbk.size (fun j hj => by cases hj; exact hbm), (e6.block _ ok.lt (fun e => hne (by injection e))).trans ok⟩
       clear e5 e6 hle hsz huk ok
       subst ha
       go_wp2
       go_region
       all_goals
        go_wp2
        go_roundw
        case rel => exact ⟨k + 1, by omega, by go_num, HR.out.1, HR.out.2.1, HR.out.2.2⟩
        case measure => simp [intOf]; omega
     · have hkk : k = y.opens.length := by omega
       subst hkk
       clear hlt hk
       have hf2 := bumps_le hf1 1 y.opens y.opens.length
       have z5 := ok.cell 5 rfl
       go_wp2
       go_loopw [9, 44] (fun _ i wr => ∃ (k : Nat), k ≤ y.shuts.length ∧ i = .int .i64 k ∧ UsedIn wr bm (n + y.uses.length + y.opens.length + k) (bumps (bumps (bumps f 0 (usesN y) y.uses.length) 1 y.opens y.opens.length) 2 y.shuts k) ∧ Below w0.heap.size w0 wr ∧ Row wr w.heap.size 38 (wantL y a2 a3 a4 a5 c2 c3 c4 c5)) (fun _ i _ => y.shuts.length - (intOf i).toNat)
       case atStart => exact ⟨0, Nat.zero_le _, rfl, huk, hbk, ok⟩
       case round wr =>
        clear huk hbk ok z5
        obtain ⟨k, hk, rfl, huk, hbk, ok⟩ := hrel
        by_cases hlt : k < y.shuts.length
        · obtain ⟨b, o, ha, hb, hc⟩ := (hy.later hbk).shuts.at hlt
          have hsz : (gs y.shuts k).size ≤ maxLen := fy.shuts.2 _ (by rw [gs_lt hlt]; exact List.getElem_mem hlt)
          have hle := bumps_le hf2 2 y.shuts k 2 (gs y.shuts k)
          obtain ⟨st, w1, w2, e1, e2, e3, e4, e5, e6⟩ := (UsedIn.kept (w' := wr.drew) huk rfl).bump (by unfold maxLen; omega) 2 (by decide) (gs y.shuts k) hsz (by omega)
          unfold usedV at e1 e2 e3
          rw [← wrap_small (by omega)] at e4
          have HR : Hid (UsedIn w2 bm (n + y.uses.length + y.opens.length + (k + 1)) (bumps (bumps (bumps f 0 (usesN y) y.uses.length) 1 y.opens y.opens.length) 2 y.shuts (k + 1)) ∧ Below w0.heap.size w0 w2 ∧ Row w2 w.heap.size 38 (wantL y a2 a3 a4 a5 c2 c3 c4 c5)) :=
           ⟨e5, Below.grown (w := wr.drew) hbk.drew e6 hbk.size (fun j hj => by cases hj; exact hbm), (e6.block _ ok.lt (fun e => hne (by injection e))).trans ok⟩
          clear e5 e6 hle hsz huk ok
          subst ha
          go_wp2
          go_region
          all_goals
           go_wp2
           go_roundw
           case rel => exact ⟨k + 1, by omega, by go_num, HR.out.1, HR.out.2.1, HR.out.2.2⟩
           case measure => simp [intOf]; omega
        · have hkk : k = y.shuts.length := by omega
          subst hkk
          clear hlt hk
          go_wp2
          go_end0
          exact ⟨rfl, hbk, huk⟩

end Go.Proofs.YtfmhkicncgccjaaGreat

/- What the program's partsApart answers: each part against the map of those ahead of it. -/
namespace Go.Proofs.YtfmhkicncgccjaaGreat
open Go.RowKit Go.Sort Go.Maps
set_option linter.unusedSimpArgs false
set_option linter.unusedVariables false
set_option maxRecDepth 100000

theorem cellKept {w w' : World} (h : Below w.heap.size w w') {a : Addr} {v : Value} (hc : w.cell? a = some v) : w'.cell? a = some v := by
 rw [h.cell (World.block_lt_of_cell? w a hc)]; exact hc

/-- The counts behind the first k parts. -/
def countsTo (x : Book) : Nat → Int → ByteArray → Nat
 | 0 => fun _ _ => 0
 | k + 1 => bumps (bumps (bumps (countsTo x k) 0 (usesN (gq x.parts k).want) (gq x.parts k).want.uses.length) 1 (gq x.parts k).want.opens (gq x.parts k).want.opens.length) 2 (gq x.parts k).want.shuts (gq x.parts k).want.shuts.length

/-- A want uses a place that is counted. -/
def usedB (f : Int → ByteArray → Nat) (y : Want) : Bool := anyTo y.uses.length (fun i => decide (0 < f 0 (gu y.uses i).name))
/-- Part k is apart from those ahead, as the program asks. -/
def apartAt (x : Book) (k : Nat) : Bool := !(usedB (countsTo x k) (gq x.parts k).want || crossI (countsTo x k) (gq x.parts k).want)

set_option maxHeartbeats 4000000 in
theorem partsApart_any (x : Book) (af ap av aq : Option Addr) (cf cp cv cq : Nat) (w : World) (hx : BookIn w x af ap av aq) (fx : BookFit x) (h6 : x.parts.length ≤ 6) (hlen : ∀ k, k < x.parts.length → (gq x.parts k).want.uses.length ≤ 20 ∧ (gq x.parts k).want.opens.length ≤ 20 ∧ (gq x.parts k).want.shuts.length ≤ 20) :
 Calls Tryz.prog 56 #[bookV x af ap av aq cf cp cv cq] w fun e w' => e = .returned (.bool (allTo x.parts.length (apartAt x))) ∧ Below w.heap.size w w' := by
 unfold bookV
 have hmm := @run_makeMap Tryz.prog
 have b0 : Below w.heap.size w ((w.alloc (.cells (bookL x af ap av aq cf cp cv cq).toArray 28)).alloc (.map #[] 0)) := ((Below.refl _ _).alloc (Nat.le_refl _) _).alloc (by simp) _
 have hu0 : UsedIn ((w.alloc (.cells (bookL x af ap av aq cf cp cv cq).toArray 28)).alloc (.map #[] 0)) (w.heap.size + 1) 0 (fun _ _ => 0) := by
  have := UsedIn.made (w.alloc (.cells (bookL x af ap av aq cf cp cv cq).toArray 28))
  simpa using this
 go_enter Tryz.func56, Tryz.ntmps56
 go_wp2
 go_loopw [5, 10] (fun _ i wr => ∃ (k n : Nat), k ≤ x.parts.length ∧ i = .int .i64 k ∧ allTo k (apartAt x) = true ∧ n ≤ 60 * k ∧ UsedIn wr (w.heap.size + 1) n (countsTo x k) ∧ (∀ y m, countsTo x k y m ≤ n) ∧ Below w.heap.size w wr) (fun _ i _ => x.parts.length - (intOf i).toNat)
 case atStart => exact ⟨0, 0, Nat.zero_le _, rfl, rfl, Nat.zero_le _, hu0, fun _ _ => Nat.le_refl _, b0⟩
 case round wr =>
  clear hu0 b0
  obtain ⟨k, n, hk, rfl, hall, hn, hu, hle, hbw⟩ := hrel
  by_cases hlt : k < x.parts.length
  · obtain ⟨b, o, a2, a3, a4, a5, c2, c3, c4, c5, ha, hb, hc0, hc1, hc2, hc3, hc4, hc5, hc6, hst⟩ := hx.parts.at hlt
    have hfp := fx.parts.wants _ (gq_mem hlt)
    have hd0 := cellKept hbw hc0
    have hd1 := cellKept hbw hc1
    have hd2 := cellKept hbw hc2
    have hd3 := cellKept hbw hc3
    have hd4 := cellKept hbw hc4
    have hd5 := cellKept hbw hc5
    have hd6 := cellKept hbw hc6
    have hb' : b < wr.heap.size := Nat.lt_of_lt_of_le hb hbw.size
    have hba : Below wr.heap.size wr (wr.alloc (.cells #[.int .i64 (gq x.parts k).want.number, .int .i64 (gq x.parts k).want.kind, .slice a2 (gq x.parts k).want.stuffs.length c2, .slice a3 (gq x.parts k).want.uses.length c3, .slice a4 (gq x.parts k).want.opens.length c4, .slice a5 (gq x.parts k).want.shuts.length c5, .bool (gq x.parts k).stopped] 61)) := (Below.refl _ _).alloc (Nat.le_refl _) _
    have frow := Row.new wr 61 (partL (gq x.parts k) a2 a3 a4 a5 c2 c3 c4 c5)
    have hbwa := hbw.trans (hba.mono hbw.size)
    have hua := hu.later hba
    subst ha
    go_wp2_with fail
    refine (usesPlaceOf_any (w.heap.size + 1) n (countsTo x k) (gq x.parts k).want a2 a3 a4 a5 c2 c3 c4 c5 _ hua (hst.later hbwa) hfp).mono ?_
    rintro e w1 ⟨rfl, hb1⟩
    have row1 := frow.later hb1
    have hu1 := hua.later hb1
    have hbw1 := hbwa.trans (hb1.mono hbwa.size)
    clear hd0 hd1 hd2 hd3 hd4 hd5 hd6 hc0 hc1 hc2 hc3 hc4 hc5 hc6 hba frow hbwa hua hb1 hu hbw
    cases hq1 : anyTo (gq x.parts k).want.uses.length (fun i => decide (0 < countsTo x k 0 (gu (gq x.parts k).want.uses i).name)) with
    | true =>
     go_wp2
     go_ret
     exact ⟨ret_bool (allTo_false k hlt (by unfold apartAt usedB; rw [hq1]; rfl)).symm, hbw1⟩
    | false =>
    have f0 := row1.cell 0 rfl
    have f1 := row1.cell 1 rfl
    have f2 := row1.cell 2 rfl
    have f3 := row1.cell 3 rfl
    have f4 := row1.cell 4 rfl
    have f5 := row1.cell 5 rfl
    go_wp2_with fail
    refine (crosses_any (w.heap.size + 1) n (countsTo x k) (gq x.parts k).want a2 a3 a4 a5 c2 c3 c4 c5 _ hu1 (hst.later hbw1) hfp).mono ?_
    rintro e w2 ⟨rfl, hb2⟩
    have row2 := row1.later hb2
    have hu2 := hu1.later hb2
    have hbw2 := hbw1.trans (hb2.mono hbw1.size)
    clear f0 f1 f2 f3 f4 f5 row1 hu1 hbw1 hb2
    cases hq2 : crossI (countsTo x k) (gq x.parts k).want with
    | true =>
     go_wp2
     go_ret
     exact ⟨ret_bool (allTo_false k hlt (by unfold apartAt; rw [hq2, Bool.or_true]; rfl)).symm, hbw2⟩
    | false =>
    have f0 := row2.cell 0 rfl
    have f1 := row2.cell 1 rfl
    have f2 := row2.cell 2 rfl
    have f3 := row2.cell 3 rfl
    have f4 := row2.cell 4 rfl
    have f5 := row2.cell 5 rfl
    have hl := hlen k hlt
    go_wp2_with fail
    refine (addUsed_any (w.heap.size + 1) n (countsTo x k) (gq x.parts k).want a2 a3 a4 a5 c2 c3 c4 c5 w _ hbw2 (by omega) hu2 (by omega) hle hl.1 hl.2.1 hl.2.2 hst hfp).mono ?_
    rintro e w3 ⟨rfl, hbw3, hu3⟩
    go_wp2
    go_roundw
    case rel => exact ⟨k + 1, n + (gq x.parts k).want.uses.length + (gq x.parts k).want.opens.length + (gq x.parts k).want.shuts.length, by omega, by go_num, allTo_succ hall (by unfold apartAt usedB; rw [hq1, hq2]; rfl), by omega, hu3, bumps_le (bumps_le (bumps_le hle _ _ _) _ _ _) _ _ _, hbw3⟩
    case measure => simp [intOf]; omega
  · go_wp2
    go_ret
    have : k = x.parts.length := by omega
    subst this
    exact ⟨ret_bool hall.symm, hbw⟩

end Go.Proofs.YtfmhkicncgccjaaGreat

/- What the program's foesOk answers. -/
namespace Go.Proofs.YtfmhkicncgccjaaGreat
open Go.RowKit Go.Sort
set_option linter.unusedSimpArgs false
set_option linter.unusedVariables false

theorem bytesLess_irrefl : ∀ l : List UInt8, Op.bytesLess l l = false
 | [] => rfl
 | a :: l => by simp [Op.bytesLess, bytesLess_irrefl l]
theorem ltS_of_eqS {s t : ByteArray} (h : eqS s t = true) : ltS s t = false := by
 unfold eqS at h
 have e : s.toList = t.toList := by simpa using h
 unfold ltS
 rw [e]
 exact bytesLess_irrefl _

set_option maxHeartbeats 400000 in
theorem foesOk1_any (f g : Foe) (w : World) :
 Calls Tryz.prog 94 #[foeV f, foeV g] w fun e w' => e = .returned (.bool (foeAsc f g)) ∧ Below w.heap.size w w' := by
 unfold foeV
 have b0 : Below w.heap.size w ((w.alloc (.cells #[.string f.a, .string f.b] 70)).alloc (.cells #[.string g.a, .string g.b] 70)) := ((Below.refl _ _).alloc (Nat.le_refl _) _).alloc (by simp) _
 cases h1 : ltS f.a g.a with
 | true =>
  have h1' : Op.bytesLess f.a.toList g.a.toList = true := h1
  go_enter Tryz.func94, Tryz.ntmps94
  go_wp2
  go_ret
  exact ⟨ret_bool (by simp [foeAsc, h1]), b0⟩
 | false =>
  have h1' : Op.bytesLess f.a.toList g.a.toList = false := h1
  cases h2 : eqS f.a g.a with
  | true =>
   have h2' : (f.a.toList == g.a.toList) = true := h2
   go_enter Tryz.func94, Tryz.ntmps94
   go_wp2
   go_ret
   exact ⟨ret_bool (by simp [foeAsc, h1, h2]; rfl), b0⟩
  | false =>
   have h2' : (f.a.toList == g.a.toList) = false := h2
   go_enter Tryz.func94, Tryz.ntmps94
   go_wp2
   go_ret
   exact ⟨ret_bool (by simp [foeAsc, h1, h2]), b0⟩

def ascFB (fs : List Foe) : Bool := allTo fs.length (fun k => k == 0 || foeAsc (gf fs (k - 1)) (gf fs k))

set_option maxHeartbeats 1000000 in
theorem ascendingF_any (a : Option Addr) (cap : Nat) (us : List Foe) (w : World) (hm : FoesAt w a us) (hl : us.length ≤ maxLen) :
 Calls Tryz.prog 93 #[.slice a us.length cap, .func (.func 94) #[] #[]] w fun e w' => e = .returned (.bool (ascFB us)) ∧ Below w.heap.size w w' := by
 unfold maxLen at hl
 go_enter Tryz.func93, Tryz.ntmps93
 go_wp2
 go_loopw [5] (fun i wr => ∃ (k : Nat), (k ≤ us.length ∨ k = 1) ∧ 1 ≤ k ∧ i = .int .i64 k ∧ allTo k (fun k => k == 0 || foeAsc (gf us (k - 1)) (gf us k)) = true ∧ Below w.heap.size w wr) (fun i _ => us.length - (intOf i).toNat)
 case atStart => exact ⟨1, Or.inr rfl, Nat.le_refl _, rfl, rfl, Below.refl _ _⟩
 case round wr =>
  obtain ⟨k, hk, hk1, rfl, hall, hbel⟩ := hrel
  by_cases hlt : k < us.length
  · obtain ⟨j, rfl⟩ : ∃ j, k = j + 1 := ⟨k - 1, by omega⟩
    obtain ⟨b, o, ha, hb, hc10, hc11⟩ := (hm.later hbel).at hlt
    obtain ⟨b', o', ha', hb', hc20, hc21⟩ := (hm.later hbel).at (k := j) (by omega)
    subst ha
    simp only [Option.some.injEq, Addr.mk.injEq, and_true] at ha'
    obtain ⟨rfl, rfl⟩ := ha'
    have r10 := cell_regrown hc10
    have r11 := cell_regrown hc11
    have r20 := cell_regrown hc20
    have r21 := cell_regrown hc21
    have hcall := fun d os => Calls.regrown_of (w := wr) (foesOk1_any (gf us j) (gf us (j + 1)) (grow (redrawn wr d) os))
    unfold foeV at hcall
    have hwrap : IntKind.i64.wrap (j : Int) = j := by rw [IntKind.wrap_i64]; omega
    have hj1 : (j : Int) < us.length := by omega
    have hj2 : (j : Int) + 1 < us.length := by omega
    have hj3 : (0 : Int) ≤ (j : Int) + 1 := by omega
    have hj4 : ((j : Int) + 1).toNat = j + 1 := by omega
    go_wp2
    refine wp_region_quiet_below (by kernel_rfl) (by kernel_rfl) ?_
    repeat (quiet_step (with_reducible exact hcall _ _))
    refine wpQuiet_nil ?_
    intro w1 hw'
    obtain ⟨⟨dq, osq⟩, hw''⟩ := hw'
    have hbel1 : Below w.heap.size w w1 := hbel.trans ((hw'' ▸ below_regrown wr dq osq).mono hbel.size)
    clear hw'' hcall r10 r11 r20 r21
    cases hq : foeAsc (gf us j) (gf us (j + 1)) with
    | true =>
     go_wp2
     go_roundw
     case rel => exact ⟨j + 1 + 1, by omega, by omega, by go_num, allTo_succ hall (by simp [hq]), hbel1⟩
     case measure => simp [intOf]; omega
    | false =>
     go_wp2
     go_ret
     exact ⟨ret_bool (allTo_false (j + 1) hlt (by simp [hq])).symm, hbel1⟩
  · go_wp2
    go_ret
    refine ⟨ret_bool ?_, hbel⟩
    refine (allTo_iff.2 fun i hi => ?_).symm
    exact allTo_iff.1 hall i (by omega)

def foeAtI (fs : List Foe) (k : Nat) : Bool := nameB (gf fs k).a && nameB (gf fs k).b && ltS (gf fs k).a (gf fs k).b

theorem foes_same (fs : List Foe) : (decide ((fs.length : Int) ≤ 12) && allTo fs.length (foeAtI fs) && ascFB fs) = foesOkB fs := by
 unfold foesOkB ascFB
 rw [Bool.and_assoc]
 congr 1
 rw [Bool.eq_iff_iff, Bool.and_eq_true, allTo_iff, allTo_iff, allTo_iff]
 have key : ∀ (f g : Foe), foeAsc f g = !((!ltS f.a g.a && !eqS f.a g.a) || eqS f.a g.a && !ltS f.b g.b) := by
  intro f g
  unfold foeAsc
  cases he : eqS f.a g.a with
  | true => rw [ltS_of_eqS he]; cases ltS f.b g.b <;> rfl
  | false => cases ltS f.a g.a <;> simp
 unfold foeAtI foeAtS
 constructor
 · rintro ⟨h1, h2⟩ i hi
   have a1 := h1 i hi
   have a2 := h2 i hi
   rw [key] at a2
   rw [a1, a2]; rfl
 · intro h
   refine ⟨fun i hi => ?_, fun i hi => ?_⟩
   · have := h i hi
     rw [Bool.and_eq_true] at this
     exact this.1
   · have := h i hi
     rw [Bool.and_eq_true] at this
     rw [key]
     exact this.2

set_option maxRecDepth 100000 in
set_option maxHeartbeats 2000000 in
theorem foesOk_any (x : Book) (af ap av aq : Option Addr) (cf cp cv cq : Nat) (w : World) (hm : FoesAt w af x.foes) (hf : FoesFit x.foes) :
 Calls Tryz.prog 52 #[bookV x af ap av aq cf cp cv cq] w fun e w' => e = .returned (.bool (foesOkB x.foes)) ∧ Below w.heap.size w w' := by
 rw [← foes_same]
 have hl := hf.len
 unfold maxLen at hl
 unfold bookV
 by_cases hmany : 12 < (x.foes.length : Int)
 · go_enter Tryz.func52, Tryz.ntmps52
   go_wp2
   go_ret
   exact ⟨ret_bool (by rw [decide_eq_false (by omega)]; rfl), (Below.refl _ _).alloc (Nat.le_refl _) _⟩
 · go_enter Tryz.func52, Tryz.ntmps52
   go_wp2
   go_loopw [4, 12] (fun _ i wr => ∃ (k : Nat), k ≤ x.foes.length ∧ i = .int .i64 k ∧ allTo k (foeAtI x.foes) = true ∧ Below (w.alloc (.cells (bookL x af ap av aq cf cp cv cq).toArray 28)).heap.size (w.alloc (.cells (bookL x af ap av aq cf cp cv cq).toArray 28)) wr) (fun _ i _ => x.foes.length - (intOf i).toNat)
   case atStart => exact ⟨0, Nat.zero_le _, rfl, rfl, Below.refl _ _⟩
   case round wr =>
    obtain ⟨k, hk, rfl, hall, hbel⟩ := hrel
    have hbw := below_over hbel
    have bk := bookRow hbel
    by_cases hlt : k < x.foes.length
    · obtain ⟨b, o, ha, hb, hc0, hc1⟩ := (hm.later hbw).at hlt
      have hsz := hf.names _ (gf_mem hlt)
      have hba : Below wr.heap.size wr (wr.alloc (.cells #[.string (gf x.foes k).a, .string (gf x.foes k).b] 70)) := (Below.refl _ _).alloc (Nat.le_refl _) _
      have frow := Row.new wr 70 [.string (gf x.foes k).a, .string (gf x.foes k).b]
      have hbela := hbel.trans (hba.mono hbel.size)
      subst ha
      go_wp2_with fail
      refine (nameOk_any (gf x.foes k).a _ hsz.1).mono ?_
      rintro e w1 ⟨rfl, hb1⟩
      have f1 := (frow.later hb1).cell 1 rfl
      have f0 := (frow.later hb1).cell 0 rfl
      have hbel1 := hbela.trans (hb1.mono hbela.size)
      cases hq1 : nameB (gf x.foes k).a with
      | false =>
       go_wp2
       go_ret
       exact ⟨ret_bool (by rw [allTo_false k hlt (by simp [foeAtI, hq1])]; simp), below_over hbel1⟩
      | true =>
      go_wp2_with fail
      refine (nameOk_any (gf x.foes k).b _ hsz.2).mono ?_
      rintro e w2 ⟨rfl, hb2⟩
      have g1 := cell_later hb2 f1
      have g0 := cell_later hb2 f0
      have hbel2 := hbel1.trans (hb2.mono hbel1.size)
      clear f0 f1 hb1 hb2 frow hba hbela
      cases hq2 : nameB (gf x.foes k).b with
      | false =>
       go_wp2
       go_ret
       exact ⟨ret_bool (by rw [allTo_false k hlt (by simp [foeAtI, hq2])]; simp), below_over hbel2⟩
      | true =>
      cases hq3 : ltS (gf x.foes k).a (gf x.foes k).b with
      | false =>
       have hq3' : Op.bytesLess (gf x.foes k).a.toList (gf x.foes k).b.toList = false := hq3
       go_wp2
       go_ret
       exact ⟨ret_bool (by rw [allTo_false k hlt (by simp [foeAtI, hq3])]; simp), below_over hbel2⟩
      | true =>
       have hq3' : Op.bytesLess (gf x.foes k).a.toList (gf x.foes k).b.toList = true := hq3
       go_wp2
       go_roundw
       case rel => exact ⟨k + 1, by omega, by go_num, allTo_succ hall (by simp [foeAtI, hq1, hq2, hq3]), hbel2⟩
       case measure => simp [intOf]; omega
    · have : k = x.foes.length := by omega
      subst this
      have y0 := bk.cell 0 rfl
      go_wp2_with fail
      refine (ascendingF_any af cf x.foes _ (hm.later hbw) hf.len).mono ?_
      rintro e w1 ⟨rfl, hb1⟩
      go_wp2
      go_ret
      exact ⟨ret_bool (by rw [hall, decide_eq_true (by omega)]; rfl), hbw.trans (hb1.mono hbw.size)⟩

end Go.Proofs.YtfmhkicncgccjaaGreat

/- The program's six looks at a book, taken together, are the specification's one. -/
namespace Go.Proofs.YtfmhkicncgccjaaGreat
open Go.RowKit Go.Sort
set_option linter.unusedSimpArgs false
set_option linter.unusedVariables false

/-- No part meets one ahead of it. -/
def apartB (x : Book) : Bool := allTo x.parts.length (fun i => allTo i (fun k => !meetB (gq x.parts i).want (gq x.parts k).want))

theorem foeHit_symm (f : Foe) (x y : ByteArray) : foeHit f x y = foeHit f y x := by unfold foeHit; rw [Bool.or_comm]
theorem foesB_symm (fs : List Foe) (x y : ByteArray) : foesB fs x y = foesB fs y x := by
 unfold foesB; congr 1; funext i; exact foeHit_symm _ _ _

theorem foesB_irrefl {fs : List Foe} (h : foesOkB fs = true) (x : ByteArray) : foesB fs x x = false := by
 cases e : foesB fs x x with
 | false => rfl
 | true =>
  obtain ⟨i, hi, hh⟩ := anyTo_iff.1 e
  unfold foesOkB at h
  simp only [Bool.and_eq_true] at h
  have h2 := allTo_iff.1 h.2 i hi
  unfold foeAtS at h2
  simp only [Bool.and_eq_true] at h2
  have h3 := h2.1.2
  unfold foeHit at hh
  rw [Bool.or_self, Bool.and_eq_true] at hh
  have h4 : eqS (gf fs i).a (gf fs i).b = true := by
   have e1 := hh.1
   have e2 := hh.2
   unfold eqS at e1 e2 ⊢
   rw [beq_iff_eq] at e1 e2 ⊢
   rw [e1, e2]
  rw [ltS_of_eqS h4] at h3
  exact absurd h3 (by decide)

theorem pairs_same {fs : List Foe} (h : foesOkB fs = true) (ss : List ByteArray) : pairsB fs ss = allTo ss.length (fun i => !clashB fs (gs ss i) ss) := by
 rw [Bool.eq_iff_iff]
 unfold pairsB clashB
 constructor
 · intro hp
   rw [allTo_iff] at hp ⊢
   intro i hi
   have hi' := hp i hi
   rw [Bool.not_eq_true', ← Bool.not_eq_true]
   intro ha
   obtain ⟨j, hj, hf⟩ := anyTo_iff.1 ha
   by_cases c1 : i < j
   · have := allTo_iff.1 hi' (j - (i + 1)) (by omega)
     rw [show i + 1 + (j - (i + 1)) = j by omega, hf] at this
     exact absurd this (by decide)
   · by_cases c2 : i = j
     · subst c2
       rw [foesB_irrefl h] at hf
       exact absurd hf (by decide)
     · have := allTo_iff.1 (hp j hj) (i - (j + 1)) (by omega)
       rw [show j + 1 + (i - (j + 1)) = i by omega, foesB_symm, hf] at this
       exact absurd this (by decide)
 · intro hp
   rw [allTo_iff] at hp ⊢
   intro i hi
   rw [allTo_iff]
   intro j hj
   have hi' := hp i hi
   cases e : foesB fs (gs ss i) (gs ss (i + 1 + j)) with
   | false => rfl
   | true =>
    have : anyTo ss.length (fun k => foesB fs (gs ss i) (gs ss k)) = true := anyTo_iff.2 ⟨i + 1 + j, by omega, e⟩
    rw [this] at hi'
    exact absurd hi' (by decide)

theorem levels_same (s : Spot) : levelsB s = (inB s.cap 0 1000 && inB s.least 0 s.most && decide (s.most ≤ s.cap)) := by
 unfold levelsB inB; simp only [Bool.and_assoc]

theorem spot_same {fs : List Foe} (h : foesOkB fs = true) (s : Spot) : spotAtI' fs s = spotOkB fs s := by
 unfold spotAtI' spotOkB
 rw [levels_same, pairs_same h]
 simp only [Bool.and_assoc]

theorem spots_same {x : Book} (h : foesOkB x.foes = true) : (allTo x.spots.length (fun k => spotAtI' x.foes (gp x.spots k)) && ascSB x.spots) = allTo x.spots.length (spotAtB x) := by
 rw [Bool.eq_iff_iff, Bool.and_eq_true]
 unfold ascSB spotAtB
 simp only [allTo_iff, Bool.and_eq_true, spot_same h]
 constructor
 · rintro ⟨h1, h2⟩ i hi
   exact ⟨h1 i hi, h2 i hi⟩
 · intro h1
   exact ⟨fun i hi => (h1 i hi).1, fun i hi => (h1 i hi).2⟩

theorem parts_same (x : Book) : ((decide ((x.parts.length : Int) ≤ 6) && allTo x.parts.length (fun k => partAtI x (gq x.parts k)) && ascPB x.parts) && apartB x && placesB x) = partsOkB x := by
 rw [Bool.eq_iff_iff]
 unfold partsOkB partAtB partOkB partAtI apartB placesB placesAt ascPB
 simp only [allTo_iff, Bool.and_eq_true]
 constructor
 · rintro ⟨⟨⟨⟨h1, h2⟩, h3⟩, h4⟩, h5⟩
   exact ⟨h1, fun i hi => ⟨⟨⟨⟨⟨(h2 i hi).1.2, (h2 i hi).1.1⟩, (h2 i hi).2⟩, h5 i hi⟩, h3 i hi⟩, h4 i hi⟩⟩
 · rintro ⟨h1, h2⟩
   exact ⟨⟨⟨⟨h1, fun i hi => ⟨⟨(h2 i hi).1.1.1.1.2, (h2 i hi).1.1.1.1.1⟩, (h2 i hi).1.1.1.2⟩⟩, fun i hi => (h2 i hi).1.2⟩, fun i hi => (h2 i hi).2⟩, fun i hi => (h2 i hi).1.1.2⟩

/-- The program's six looks. -/
def bookI (x : Book) : Bool :=
 foesOkB x.foes && (decide ((x.spots.length : Int) ≤ 8) && allTo x.spots.length (fun k => spotAtI' x.foes (gp x.spots k)) && ascSB x.spots) && (namesB x.valves 12 && inB x.seen 0 1000000) && (decide ((x.parts.length : Int) ≤ 6) && allTo x.parts.length (fun k => partAtI x (gq x.parts k)) && ascPB x.parts) && apartB x && placesB x

theorem book_same (x : Book) : bookI x = bookB x := by
 unfold bookI bookB
 cases h : foesOkB x.foes with
 | false => rfl
 | true =>
  rw [← spots_same h, ← parts_same]
  cases decide ((x.spots.length : Int) ≤ 8) <;> cases namesB x.valves 12 <;> cases inB x.seen 0 1000000 <;> cases allTo x.spots.length (fun k => spotAtI' x.foes (gp x.spots k)) <;> cases ascSB x.spots <;> simp

end Go.Proofs.YtfmhkicncgccjaaGreat

/- The map's answers are what the parts ahead hold. -/
namespace Go.Proofs.YtfmhkicncgccjaaGreat
open Go.RowKit Go.Sort
set_option linter.unusedSimpArgs false
set_option linter.unusedVariables false

theorem toList_is (s : ByteArray) : s.toList = s.data.toList := ByteArray.toList_eq s
theorem eqS_iff {s t : ByteArray} : eqS s t = true ↔ s = t := by
 unfold eqS
 rw [beq_iff_eq, toList_is, toList_is]
 exact ⟨fun h => Go.WideShapes.bytes_inj h, fun h => by rw [h]⟩

theorem hasB_iff {ss : List ByteArray} {s : ByteArray} : hasB ss s = true ↔ ∃ i, i < ss.length ∧ gs ss i = s := by
 unfold hasB
 rw [anyTo_iff]
 simp only [eqS_iff]
theorem shareB_iff {xs ys : List ByteArray} : shareB xs ys = true ↔ ∃ i, i < xs.length ∧ hasB ys (gs xs i) = true := by
 unfold shareB; rw [anyTo_iff]

theorem bumps_pos {f : Int → ByteArray → Nat} {way : Int} {ss : List ByteArray} : ∀ (k : Nat) (y : Int) (m : ByteArray), 0 < bumps f way ss k y m ↔ 0 < f y m ∨ (y = way ∧ ∃ i, i < k ∧ gs ss i = m)
 | 0, y, m => by simp [bumps]
 | k + 1, y, m => by
  have ih := bumps_pos (f := f) (way := way) (ss := ss) k y m
  unfold bumps bump
  constructor
  · intro h
    by_cases e : y = way ∧ m = gs ss k
    · exact Or.inr ⟨e.1, k, by omega, e.2.symm⟩
    · rw [if_neg e] at h
      rcases ih.1 h with h | ⟨h1, i, h2, h3⟩
      · exact Or.inl h
      · exact Or.inr ⟨h1, i, by omega, h3⟩
  · intro h
    by_cases e : y = way ∧ m = gs ss k
    · rw [if_pos e]; omega
    · rw [if_neg e]
      refine ih.2 ?_
      rcases h with h | ⟨h1, i, h2, h3⟩
      · exact Or.inl h
      · refine Or.inr ⟨h1, i, ?_, h3⟩
        have : i ≠ k := fun e1 => e ⟨h1, by rw [← h3, e1]⟩
        omega

theorem countsTo_succ (x : Book) (k : Nat) : countsTo x (k + 1) = bumps (bumps (bumps (countsTo x k) 0 (usesN (gq x.parts k).want) (gq x.parts k).want.uses.length) 1 (gq x.parts k).want.opens (gq x.parts k).want.opens.length) 2 (gq x.parts k).want.shuts (gq x.parts k).want.shuts.length := rfl

theorem counts_pos (x : Book) (m : ByteArray) : ∀ k, (0 < countsTo x k 0 m ↔ ∃ j, j < k ∧ hasB (usesN (gq x.parts j).want) m = true) ∧ (0 < countsTo x k 1 m ↔ ∃ j, j < k ∧ hasB (gq x.parts j).want.opens m = true) ∧ (0 < countsTo x k 2 m ↔ ∃ j, j < k ∧ hasB (gq x.parts j).want.shuts m = true)
 | 0 => by simp [countsTo]
 | k + 1 => by
  obtain ⟨i0, i1, i2⟩ := counts_pos x m k
  have st : ∀ {q : Nat → Prop}, (∃ j, j < k + 1 ∧ q j) ↔ (∃ j, j < k ∧ q j) ∨ q k := fun {q} =>
   ⟨fun ⟨j, hj, h⟩ => if e : j = k then Or.inr (e ▸ h) else Or.inl ⟨j, by omega, h⟩, fun h => h.elim (fun ⟨j, hj, h⟩ => ⟨j, by omega, h⟩) (fun h => ⟨k, by omega, h⟩)⟩
  refine ⟨?_, ?_, ?_⟩
  · rw [st, ← i0, hasB_iff, usesN_len]; rw [countsTo_succ, bumps_pos, bumps_pos, bumps_pos]; simp
  · rw [st, ← i1, hasB_iff]; rw [countsTo_succ, bumps_pos, bumps_pos, bumps_pos]; simp
  · rw [st, ← i2, hasB_iff]; rw [countsTo_succ, bumps_pos, bumps_pos, bumps_pos]; simp

theorem apart_same (x : Book) : allTo x.parts.length (apartAt x) = apartB x := by
 unfold apartB
 congr 1
 funext k
 rw [Bool.eq_iff_iff, allTo_iff]
 unfold apartAt
 rw [Bool.not_eq_true', ← Bool.not_eq_true, Bool.or_eq_true]
 constructor
 · intro h j hj
   rw [Bool.not_eq_true', ← Bool.not_eq_true]
   intro hm
   apply h
   unfold meetB crossB at hm
   simp only [Bool.or_eq_true, shareB_iff] at hm
   unfold usedB crossI
   simp only [Bool.or_eq_true, anyTo_iff, decide_eq_true_eq]
   rcases hm with ⟨i, hi, h1⟩ | ((⟨i, hi, h1⟩ | ⟨i, hi, h1⟩) | ⟨i, hi, h1⟩)
   · rw [usesN_len] at hi
     refine Or.inl ⟨i, hi, (counts_pos x _ k).1.2 ⟨j, hj, ?_⟩⟩
     have e : gs (usesN (gq x.parts k).want) i = (gu (gq x.parts k).want.uses i).name := by unfold gs; rw [List.getD_eq_getElem?_getD, usesN_at hi]; rfl
     rw [← e]; exact h1
   · exact Or.inr (Or.inl ⟨i, hi, Or.inl ((counts_pos x _ k).2.1.2 ⟨j, hj, h1⟩)⟩)
   · exact Or.inr (Or.inl ⟨i, hi, Or.inr ((counts_pos x _ k).2.2.2 ⟨j, hj, h1⟩)⟩)
   · exact Or.inr (Or.inr ⟨i, hi, (counts_pos x _ k).2.1.2 ⟨j, hj, h1⟩⟩)
 · intro h hm
   unfold usedB crossI at hm
   simp only [Bool.or_eq_true, anyTo_iff, decide_eq_true_eq] at hm
   have key : ∀ j, j < k → ¬ (shareB (usesN (gq x.parts k).want) (usesN (gq x.parts j).want) = true ∨ ((shareB (gq x.parts k).want.opens (gq x.parts j).want.opens = true ∨ shareB (gq x.parts k).want.opens (gq x.parts j).want.shuts = true) ∨ shareB (gq x.parts k).want.shuts (gq x.parts j).want.opens = true)) := by
    intro j hj hc
    have := h j hj
    rw [Bool.not_eq_true', ← Bool.not_eq_true] at this
    apply this
    unfold meetB crossB
    simp only [Bool.or_eq_true]
    exact hc
   rcases hm with ⟨i, hi, h1⟩ | (⟨i, hi, h1 | h1⟩ | ⟨i, hi, h1⟩)
   · obtain ⟨j, hj, h2⟩ := (counts_pos x _ k).1.1 h1
     have e : gs (usesN (gq x.parts k).want) i = (gu (gq x.parts k).want.uses i).name := by unfold gs; rw [List.getD_eq_getElem?_getD, usesN_at hi]; rfl
     exact key j hj (Or.inl (shareB_iff.2 ⟨i, by rw [usesN_len]; exact hi, by rw [e]; exact h2⟩))
   · obtain ⟨j, hj, h2⟩ := (counts_pos x _ k).2.1.1 h1
     exact key j hj (Or.inr (Or.inl (Or.inl (shareB_iff.2 ⟨i, hi, h2⟩))))
   · obtain ⟨j, hj, h2⟩ := (counts_pos x _ k).2.2.1 h1
     exact key j hj (Or.inr (Or.inl (Or.inr (shareB_iff.2 ⟨i, hi, h2⟩))))
   · obtain ⟨j, hj, h2⟩ := (counts_pos x _ k).2.1.1 h1
     exact key j hj (Or.inr (Or.inr (shareB_iff.2 ⟨i, hi, h2⟩)))

end Go.Proofs.YtfmhkicncgccjaaGreat

