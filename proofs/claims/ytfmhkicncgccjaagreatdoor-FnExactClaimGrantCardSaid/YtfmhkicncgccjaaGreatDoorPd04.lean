/- Joined: BkM4, BkM5. -/
import Derived.Test.YtfmhkicncgccjaaGreatDoorPd03
import Derived.Test.YtfmhkicncgccjaaGreatDoorPc06
import Derived.BigRegion
/- The program adds what a want uses to the map. -/
namespace Go.Proofs.YtfmhkicncgccjaaGreatDoor
open Go.RowKit Go.Sort Go.Maps
set_option linter.unusedSimpArgs false
set_option linter.unusedVariables false
set_option maxRecDepth 100000

/-- The map's counts behind the first k of some names. -/
def bumps (f : Int → ByteArray → Nat) (way : Int) (ss : List ByteArray) : Nat → Int → ByteArray → Nat
  | 0 => f
  | k + 1 => bump (bumps f way ss k) way (gs ss k)

theorem bumps_le {f : Int → ByteArray → Nat} {n : Nat} (hf : ∀ y m, f y m ≤ n) (way : Int) (ss : List ByteArray) : ∀ (k : Nat) y m, bumps f way ss k y m ≤ n + k
  | 0, y, m => hf y m
  | k + 1, y, m => by
    have := bumps_le hf way ss k y m
    unfold bumps bump
    split <;> omega

theorem wrap_small {c : Nat} (h : c ≤ 100000) : wrap64 ((c : Int) + 1) = (c : Int) + 1 := by
  unfold wrap64; omega

set_option maxHeartbeats 4000000 in
theorem addUsed_any (bm n : Nat) (f : Int → ByteArray → Nat) (y : Want) (a2 a3 a4 a5 : Option Addr) (c2 c3 c4 c5 : Nat) (w0 w : World) (hbw : Below w0.heap.size w0 w) (hbm : w0.heap.size ≤ bm) (hu : UsedIn w bm n f) (hn : n ≤ 1000) (hf : ∀ y m, f y m ≤ n) (h3 : y.uses.length ≤ 20) (h4 : y.opens.length ≤ 20) (h5 : y.shuts.length ≤ 20) (hy : WantIn w0 y a2 a3 a4 a5) (fy : WantFit y) :
    Calls Tryz.prog 128 #[.map (some bm), wantW y a2 a3 a4 a5 c2 c3 c4 c5] w fun e w' => e = .returned (.tuple #[]) ∧ Below w0.heap.size w0 w' ∧ UsedIn w' bm (n + y.uses.length + y.opens.length + y.shuts.length) (bumps (bumps (bumps f 0 (usesN y) y.uses.length) 1 y.opens y.opens.length) 2 y.shuts y.shuts.length) := by
  unfold wantW
  have b0 : Below w.heap.size w (w.alloc (.cells #[.int .i64 y.number, .int .i64 y.kind, .slice a2 y.stuffs.length c2, .slice a3 y.uses.length c3, .slice a4 y.opens.length c4, .slice a5 y.shuts.length c5] 42)) := (Below.refl _ _).alloc (Nat.le_refl _) _
  have o0 : Row (w.alloc (.cells #[.int .i64 y.number, .int .i64 y.kind, .slice a2 y.stuffs.length c2, .slice a3 y.uses.length c3, .slice a4 y.opens.length c4, .slice a5 y.shuts.length c5] 42)) w.heap.size 42 (wantL y a2 a3 a4 a5 c2 c3 c4 c5) := Row.new w 42 (wantL y a2 a3 a4 a5 c2 c3 c4 c5)
  have hne : w.heap.size ≠ bm := by have := hu.lt; omega
  have hbw0 := hbw.trans (b0.mono hbw.size)
  have hu0 := hu.later b0
  go_enter Tryz.func128, Tryz.ntmps128
  go_wp2
  go_loopw [5, 13] (fun _ i wr => ∃ (k : Nat), k ≤ y.uses.length ∧ i = .int .i64 k ∧ UsedIn wr bm (n + k) (bumps f 0 (usesN y) k) ∧ Below w0.heap.size w0 wr ∧ Row wr w.heap.size 42 (wantL y a2 a3 a4 a5 c2 c3 c4 c5)) (fun _ i _ => y.uses.length - (intOf i).toNat)
  case atStart => exact ⟨0, Nat.zero_le _, rfl, hu0, hbw0, o0⟩
  case round wr =>
    clear hu0 hbw0 o0 b0
    obtain ⟨k, hk, rfl, huk, hbk, ok⟩ := hrel
    by_cases hlt : k < y.uses.length
    · obtain ⟨b, o, ha, hb, hc0, hc1, hc2⟩ := (hy.later hbk).uses.at hlt
      have hsz : (gu y.uses k).name.size ≤ maxLen := fy.usesNames _ (by rw [gu_lt hlt]; exact List.getElem_mem hlt)
      have hgs : gs (usesN y) k = (gu y.uses k).name := by unfold gs; rw [List.getD_eq_getElem?_getD, usesN_at hlt]; rfl
      have hba : Below wr.heap.size wr (wr.alloc (.cells #[.string (gu y.uses k).name, .int .i64 (gu y.uses k).role, .int .i64 (gu y.uses k).amount] 101)) := (Below.refl _ _).alloc (Nat.le_refl _) _
      have ok1 := ok.later hba
      have hle := bumps_le hf 0 (usesN y) k 0 (gu y.uses k).name
      obtain ⟨st, w1, w2, e1, e2, e3, e4, e5, e6⟩ := (UsedIn.kept (w' := (wr.alloc (.cells #[.string (gu y.uses k).name, .int .i64 (gu y.uses k).role, .int .i64 (gu y.uses k).amount] 101)).drew) (huk.later hba) rfl).bump (by unfold maxLen; omega) 0 (by decide) (gu y.uses k).name hsz (by omega)
      unfold usedV at e1 e2 e3
      rw [← wrap_small (by omega)] at e4
      have HR : Hid (UsedIn w2 bm (n + (k + 1)) (bumps f 0 (usesN y) (k + 1)) ∧ Below w0.heap.size w0 w2 ∧ Row w2 w.heap.size 42 (wantL y a2 a3 a4 a5 c2 c3 c4 c5)) := by
        refine ⟨?_, ?_, ?_⟩
        · show UsedIn w2 bm (n + k + 1) (bump (bumps f 0 (usesN y) k) 0 (gs (usesN y) k))
          rw [hgs]; exact e5
        · have hb1 := hbk.trans (hba.mono hbk.size)
          exact Below.grown (w := (wr.alloc (.cells #[.string (gu y.uses k).name, .int .i64 (gu y.uses k).role, .int .i64 (gu y.uses k).amount] 101)).drew) hb1.drew e6 hb1.size (fun j hj => by cases hj; exact hbm)
        · exact (e6.block _ ok1.lt (fun e => hne (by injection e))).trans ok1
      clear e5 e6 ok1 hle hgs hsz hba huk ok
      subst ha
      go_wp2
      go_region
      all_goals
        go_wp2
        go_roundw
        case rel => exact ⟨k + 1, by omega, by go_num, HR.out.1, HR.out.2.1, HR.out.2.2⟩
        case measure => simp [intOf]; omega
    · have hkk : k = y.uses.length := by omega
      subst hkk
      clear hlt hk
      have hf1 := bumps_le hf 0 (usesN y) y.uses.length
      have z4 := ok.cell 4 rfl
      go_wp2
      go_loopw [7, 29] (fun _ i wr => ∃ (k : Nat), k ≤ y.opens.length ∧ i = .int .i64 k ∧ UsedIn wr bm (n + y.uses.length + k) (bumps (bumps f 0 (usesN y) y.uses.length) 1 y.opens k) ∧ Below w0.heap.size w0 wr ∧ Row wr w.heap.size 42 (wantL y a2 a3 a4 a5 c2 c3 c4 c5)) (fun _ i _ => y.opens.length - (intOf i).toNat)
      case atStart => exact ⟨0, Nat.zero_le _, rfl, huk, hbk, ok⟩
      case round wr =>
        clear huk hbk ok z4
        obtain ⟨k, hk, rfl, huk, hbk, ok⟩ := hrel
        by_cases hlt : k < y.opens.length
        · obtain ⟨b, o, ha, hb, hc⟩ := (hy.later hbk).opens.at hlt
          have hsz : (gs y.opens k).size ≤ maxLen := fy.opens.2 _ (by rw [gs_lt hlt]; exact List.getElem_mem hlt)
          have hle := bumps_le hf1 1 y.opens k 1 (gs y.opens k)
          obtain ⟨st, w1, w2, e1, e2, e3, e4, e5, e6⟩ := (UsedIn.kept (w' := wr.drew) huk rfl).bump (by unfold maxLen; omega) 1 (by decide) (gs y.opens k) hsz (by omega)
          unfold usedV at e1 e2 e3
          rw [← wrap_small (by omega)] at e4
          have HR : Hid (UsedIn w2 bm (n + y.uses.length + (k + 1)) (bumps (bumps f 0 (usesN y) y.uses.length) 1 y.opens (k + 1)) ∧ Below w0.heap.size w0 w2 ∧ Row w2 w.heap.size 42 (wantL y a2 a3 a4 a5 c2 c3 c4 c5)) :=
            ⟨e5, Below.grown (w := wr.drew) hbk.drew e6 hbk.size (fun j hj => by cases hj; exact hbm), (e6.block _ ok.lt (fun e => hne (by injection e))).trans ok⟩
          clear e5 e6 hle hsz huk ok
          subst ha
          go_wp2
          go_region
          all_goals
            go_wp2
            go_roundw
            case rel => exact ⟨k + 1, by omega, by go_num, HR.out.1, HR.out.2.1, HR.out.2.2⟩
            case measure => simp [intOf]; omega
        · have hkk : k = y.opens.length := by omega
          subst hkk
          clear hlt hk
          have hf2 := bumps_le hf1 1 y.opens y.opens.length
          have z5 := ok.cell 5 rfl
          go_wp2
          go_loopw [9, 44] (fun _ i wr => ∃ (k : Nat), k ≤ y.shuts.length ∧ i = .int .i64 k ∧ UsedIn wr bm (n + y.uses.length + y.opens.length + k) (bumps (bumps (bumps f 0 (usesN y) y.uses.length) 1 y.opens y.opens.length) 2 y.shuts k) ∧ Below w0.heap.size w0 wr ∧ Row wr w.heap.size 42 (wantL y a2 a3 a4 a5 c2 c3 c4 c5)) (fun _ i _ => y.shuts.length - (intOf i).toNat)
          case atStart => exact ⟨0, Nat.zero_le _, rfl, huk, hbk, ok⟩
          case round wr =>
            clear huk hbk ok z5
            obtain ⟨k, hk, rfl, huk, hbk, ok⟩ := hrel
            by_cases hlt : k < y.shuts.length
            · obtain ⟨b, o, ha, hb, hc⟩ := (hy.later hbk).shuts.at hlt
              have hsz : (gs y.shuts k).size ≤ maxLen := fy.shuts.2 _ (by rw [gs_lt hlt]; exact List.getElem_mem hlt)
              have hle := bumps_le hf2 2 y.shuts k 2 (gs y.shuts k)
              obtain ⟨st, w1, w2, e1, e2, e3, e4, e5, e6⟩ := (UsedIn.kept (w' := wr.drew) huk rfl).bump (by unfold maxLen; omega) 2 (by decide) (gs y.shuts k) hsz (by omega)
              unfold usedV at e1 e2 e3
              rw [← wrap_small (by omega)] at e4
              have HR : Hid (UsedIn w2 bm (n + y.uses.length + y.opens.length + (k + 1)) (bumps (bumps (bumps f 0 (usesN y) y.uses.length) 1 y.opens y.opens.length) 2 y.shuts (k + 1)) ∧ Below w0.heap.size w0 w2 ∧ Row w2 w.heap.size 42 (wantL y a2 a3 a4 a5 c2 c3 c4 c5)) :=
                ⟨e5, Below.grown (w := wr.drew) hbk.drew e6 hbk.size (fun j hj => by cases hj; exact hbm), (e6.block _ ok.lt (fun e => hne (by injection e))).trans ok⟩
              clear e5 e6 hle hsz huk ok
              subst ha
              go_wp2
              go_region
              all_goals
                go_wp2
                go_roundw
                case rel => exact ⟨k + 1, by omega, by go_num, HR.out.1, HR.out.2.1, HR.out.2.2⟩
                case measure => simp [intOf]; omega
            · have hkk : k = y.shuts.length := by omega
              subst hkk
              clear hlt hk
              go_wp2
              go_end0
              exact ⟨rfl, hbk, huk⟩

end Go.Proofs.YtfmhkicncgccjaaGreatDoor

/- What the program's partsApart answers: each part against the map of those ahead of it. -/
namespace Go.Proofs.YtfmhkicncgccjaaGreatDoor
open Go.RowKit Go.Sort Go.Maps
set_option linter.unusedSimpArgs false
set_option linter.unusedVariables false
set_option maxRecDepth 100000

theorem cellKept {w w' : World} (h : Below w.heap.size w w') {a : Addr} {v : Value} (hc : w.cell? a = some v) : w'.cell? a = some v := by
  rw [h.cell (World.block_lt_of_cell? w a hc)]; exact hc

/-- The counts behind the first k parts. -/
def countsTo (x : Book) : Nat → Int → ByteArray → Nat
  | 0 => fun _ _ => 0
  | k + 1 => bumps (bumps (bumps (countsTo x k) 0 (usesN (gq x.parts k).want) (gq x.parts k).want.uses.length) 1 (gq x.parts k).want.opens (gq x.parts k).want.opens.length) 2 (gq x.parts k).want.shuts (gq x.parts k).want.shuts.length

/-- A want uses a place that is counted. -/
def usedB (f : Int → ByteArray → Nat) (y : Want) : Bool := anyTo y.uses.length (fun i => decide (0 < f 0 (gu y.uses i).name))
/-- Part k is apart from those ahead, as the program asks. -/
def apartAt (x : Book) (k : Nat) : Bool := !(usedB (countsTo x k) (gq x.parts k).want || crossI (countsTo x k) (gq x.parts k).want)

set_option maxHeartbeats 4000000 in
theorem partsApart_any (x : Book) (af ap av aq : Option Addr) (cf cp cv cq : Nat) (w : World) (hx : BookIn w x af ap av aq) (fx : BookFit x) (h6 : x.parts.length ≤ 6) (hlen : ∀ k, k < x.parts.length → (gq x.parts k).want.uses.length ≤ 20 ∧ (gq x.parts k).want.opens.length ≤ 20 ∧ (gq x.parts k).want.shuts.length ≤ 20) :
    Calls Tryz.prog 145 #[bookV x af ap av aq cf cp cv cq] w fun e w' => e = .returned (.bool (allTo x.parts.length (apartAt x))) ∧ Below w.heap.size w w' := by
  unfold bookV
  have hmm := @run_makeMap Tryz.prog
  have b0 : Below w.heap.size w ((w.alloc (.cells (bookL x af ap av aq cf cp cv cq).toArray 38)).alloc (.map #[] 0)) := ((Below.refl _ _).alloc (Nat.le_refl _) _).alloc (by simp) _
  have hu0 : UsedIn ((w.alloc (.cells (bookL x af ap av aq cf cp cv cq).toArray 38)).alloc (.map #[] 0)) (w.heap.size + 1) 0 (fun _ _ => 0) := by
    have := UsedIn.made (w.alloc (.cells (bookL x af ap av aq cf cp cv cq).toArray 38))
    simpa using this
  go_enter Tryz.func145, Tryz.ntmps145
  go_wp2
  go_loopw [5, 10] (fun _ i wr => ∃ (k n : Nat), k ≤ x.parts.length ∧ i = .int .i64 k ∧ allTo k (apartAt x) = true ∧ n ≤ 60 * k ∧ UsedIn wr (w.heap.size + 1) n (countsTo x k) ∧ (∀ y m, countsTo x k y m ≤ n) ∧ Below w.heap.size w wr) (fun _ i _ => x.parts.length - (intOf i).toNat)
  case atStart => exact ⟨0, 0, Nat.zero_le _, rfl, rfl, Nat.zero_le _, hu0, fun _ _ => Nat.le_refl _, b0⟩
  case round wr =>
    clear hu0 b0
    obtain ⟨k, n, hk, rfl, hall, hn, hu, hle, hbw⟩ := hrel
    by_cases hlt : k < x.parts.length
    · obtain ⟨b, o, a2, a3, a4, a5, c2, c3, c4, c5, ha, hb, hc0, hc1, hc2, hc3, hc4, hc5, hc6, hst⟩ := hx.parts.at hlt
      have hfp := fx.parts.wants _ (gq_mem hlt)
      have hd0 := cellKept hbw hc0
      have hd1 := cellKept hbw hc1
      have hd2 := cellKept hbw hc2
      have hd3 := cellKept hbw hc3
      have hd4 := cellKept hbw hc4
      have hd5 := cellKept hbw hc5
      have hd6 := cellKept hbw hc6
      have hb' : b < wr.heap.size := Nat.lt_of_lt_of_le hb hbw.size
      have hba : Below wr.heap.size wr (wr.alloc (.cells #[.int .i64 (gq x.parts k).want.number, .int .i64 (gq x.parts k).want.kind, .slice a2 (gq x.parts k).want.stuffs.length c2, .slice a3 (gq x.parts k).want.uses.length c3, .slice a4 (gq x.parts k).want.opens.length c4, .slice a5 (gq x.parts k).want.shuts.length c5, .bool (gq x.parts k).stopped] 60)) := (Below.refl _ _).alloc (Nat.le_refl _) _
      have frow := Row.new wr 60 (partL (gq x.parts k) a2 a3 a4 a5 c2 c3 c4 c5)
      have hbwa := hbw.trans (hba.mono hbw.size)
      have hua := hu.later hba
      subst ha
      go_wp2_with fail
      refine (usesPlaceOf_any (w.heap.size + 1) n (countsTo x k) (gq x.parts k).want a2 a3 a4 a5 c2 c3 c4 c5 _ hua (hst.later hbwa) hfp).mono ?_
      rintro e w1 ⟨rfl, hb1⟩
      have row1 := frow.later hb1
      have hu1 := hua.later hb1
      have hbw1 := hbwa.trans (hb1.mono hbwa.size)
      clear hd0 hd1 hd2 hd3 hd4 hd5 hd6 hc0 hc1 hc2 hc3 hc4 hc5 hc6 hba frow hbwa hua hb1 hu hbw
      cases hq1 : anyTo (gq x.parts k).want.uses.length (fun i => decide (0 < countsTo x k 0 (gu (gq x.parts k).want.uses i).name)) with
      | true =>
        go_wp2
        go_ret
        exact ⟨ret_bool (allTo_false k hlt (by unfold apartAt usedB; rw [hq1]; rfl)).symm, hbw1⟩
      | false =>
      have f0 := row1.cell 0 rfl
      have f1 := row1.cell 1 rfl
      have f2 := row1.cell 2 rfl
      have f3 := row1.cell 3 rfl
      have f4 := row1.cell 4 rfl
      have f5 := row1.cell 5 rfl
      go_wp2_with fail
      refine (crosses_any (w.heap.size + 1) n (countsTo x k) (gq x.parts k).want a2 a3 a4 a5 c2 c3 c4 c5 _ hu1 (hst.later hbw1) hfp).mono ?_
      rintro e w2 ⟨rfl, hb2⟩
      have row2 := row1.later hb2
      have hu2 := hu1.later hb2
      have hbw2 := hbw1.trans (hb2.mono hbw1.size)
      clear f0 f1 f2 f3 f4 f5 row1 hu1 hbw1 hb2
      cases hq2 : crossI (countsTo x k) (gq x.parts k).want with
      | true =>
        go_wp2
        go_ret
        exact ⟨ret_bool (allTo_false k hlt (by unfold apartAt; rw [hq2, Bool.or_true]; rfl)).symm, hbw2⟩
      | false =>
      have f0 := row2.cell 0 rfl
      have f1 := row2.cell 1 rfl
      have f2 := row2.cell 2 rfl
      have f3 := row2.cell 3 rfl
      have f4 := row2.cell 4 rfl
      have f5 := row2.cell 5 rfl
      have hl := hlen k hlt
      go_wp2_with fail
      refine (addUsed_any (w.heap.size + 1) n (countsTo x k) (gq x.parts k).want a2 a3 a4 a5 c2 c3 c4 c5 w _ hbw2 (by omega) hu2 (by omega) hle hl.1 hl.2.1 hl.2.2 hst hfp).mono ?_
      rintro e w3 ⟨rfl, hbw3, hu3⟩
      go_wp2
      go_roundw
      case rel => exact ⟨k + 1, n + (gq x.parts k).want.uses.length + (gq x.parts k).want.opens.length + (gq x.parts k).want.shuts.length, by omega, by go_num, allTo_succ hall (by unfold apartAt usedB; rw [hq1, hq2]; rfl), by omega, hu3, bumps_le (bumps_le (bumps_le hle _ _ _) _ _ _) _ _ _, hbw3⟩
      case measure => simp [intOf]; omega
    · go_wp2
      go_ret
      have : k = x.parts.length := by omega
      subst this
      exact ⟨ret_bool hall.symm, hbw⟩

end Go.Proofs.YtfmhkicncgccjaaGreatDoor
