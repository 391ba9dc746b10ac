/- The program adds what a want uses to the map. -/
import Derived.Test.YtfmhkicncgccjaaGreatBkM3
import Derived.Test.YtfmhkicncgccjaaGreatBkS8
import Derived.BigRegion
namespace Go.Proofs.YtfmhkicncgccjaaGreat
open Go.RowKit Go.Sort Go.Maps
set_option linter.unusedSimpArgs false
set_option linter.unusedVariables false
set_option maxRecDepth 100000

/-- The map's counts behind the first k of some names. -/
def bumps (f : Int → ByteArray → Nat) (way : Int) (ss : List ByteArray) : Nat → Int → ByteArray → Nat
  | 0 => f
  | k + 1 => bump (bumps f way ss k) way (gs ss k)

theorem bumps_le {f : Int → ByteArray → Nat} {n : Nat} (hf : ∀ y m, f y m ≤ n) (way : Int) (ss : List ByteArray) : ∀ (k : Nat) y m, bumps f way ss k y m ≤ n + k
  | 0, y, m => hf y m
  | k + 1, y, m => by
    have := bumps_le hf way ss k y m
    unfold bumps bump
    split <;> omega

theorem wrap_small {c : Nat} (h : c ≤ 100000) : wrap64 ((c : Int) + 1) = (c : Int) + 1 := by
  unfold wrap64; omega

set_option maxHeartbeats 4000000 in
theorem addUsed_any (bm n : Nat) (f : Int → ByteArray → Nat) (y : Want) (a2 a3 a4 a5 : Option Addr) (c2 c3 c4 c5 : Nat) (w0 w : World) (hbw : Below w0.heap.size w0 w) (hbm : w0.heap.size ≤ bm) (hu : UsedIn w bm n f) (hn : n ≤ 1000) (hf : ∀ y m, f y m ≤ n) (h3 : y.uses.length ≤ 20) (h4 : y.opens.length ≤ 20) (h5 : y.shuts.length ≤ 20) (hy : WantIn w0 y a2 a3 a4 a5) (fy : WantFit y) :
    Calls Tryz.prog 107 #[.map (some bm), wantW y a2 a3 a4 a5 c2 c3 c4 c5] w fun e w' => e = .returned (.tuple #[]) ∧ Below w0.heap.size w0 w' ∧ UsedIn w' bm (n + y.uses.length + y.opens.length + y.shuts.length) (bumps (bumps (bumps f 0 (usesN y) y.uses.length) 1 y.opens y.opens.length) 2 y.shuts y.shuts.length) := by
  unfold wantW
  have b0 : Below w.heap.size w (w.alloc (.cells #[.int .i64 y.number, .int .i64 y.kind, .slice a2 y.stuffs.length c2, .slice a3 y.uses.length c3, .slice a4 y.opens.length c4, .slice a5 y.shuts.length c5] 38)) := (Below.refl _ _).alloc (Nat.le_refl _) _
  have o0 : Row (w.alloc (.cells #[.int .i64 y.number, .int .i64 y.kind, .slice a2 y.stuffs.length c2, .slice a3 y.uses.length c3, .slice a4 y.opens.length c4, .slice a5 y.shuts.length c5] 38)) w.heap.size 38 (wantL y a2 a3 a4 a5 c2 c3 c4 c5) := Row.new w 38 (wantL y a2 a3 a4 a5 c2 c3 c4 c5)
  have hne : w.heap.size ≠ bm := by have := hu.lt; omega
  have hbw0 := hbw.trans (b0.mono hbw.size)
  have hu0 := hu.later b0
  go_enter Tryz.func107, Tryz.ntmps107
  go_wp2
  go_loopw [5, 13] (fun _ i wr => ∃ (k : Nat), k ≤ y.uses.length ∧ i = .int .i64 k ∧ UsedIn wr bm (n + k) (bumps f 0 (usesN y) k) ∧ Below w0.heap.size w0 wr ∧ Row wr w.heap.size 38 (wantL y a2 a3 a4 a5 c2 c3 c4 c5)) (fun _ i _ => y.uses.length - (intOf i).toNat)
  case atStart => exact ⟨0, Nat.zero_le _, rfl, hu0, hbw0, o0⟩
  case round wr =>
    clear hu0 hbw0 o0 b0
    obtain ⟨k, hk, rfl, huk, hbk, ok⟩ := hrel
    by_cases hlt : k < y.uses.length
    · obtain ⟨b, o, ha, hb, hc0, hc1, hc2⟩ := (hy.later hbk).uses.at hlt
      have hsz : (gu y.uses k).name.size ≤ maxLen := fy.usesNames _ (by rw [gu_lt hlt]; exact List.getElem_mem hlt)
      have hgs : gs (usesN y) k = (gu y.uses k).name := by unfold gs; rw [List.getD_eq_getElem?_getD, usesN_at hlt]; rfl
      have hba : Below wr.heap.size wr (wr.alloc (.cells #[.string (gu y.uses k).name, .int .i64 (gu y.uses k).role, .int .i64 (gu y.uses k).amount] 101)) := (Below.refl _ _).alloc (Nat.le_refl _) _
      have ok1 := ok.later hba
      have hle := bumps_le hf 0 (usesN y) k 0 (gu y.uses k).name
      obtain ⟨st, w1, w2, e1, e2, e3, e4, e5, e6⟩ := (UsedIn.kept (w' := (wr.alloc (.cells #[.string (gu y.uses k).name, .int .i64 (gu y.uses k).role, .int .i64 (gu y.uses k).amount] 101)).drew) (huk.later hba) rfl).bump (by unfold maxLen; omega) 0 (by decide) (gu y.uses k).name hsz (by omega)
      unfold usedV at e1 e2 e3
      rw [← wrap_small (by omega)] at e4
      have HR : Hid (UsedIn w2 bm (n + (k + 1)) (bumps f 0 (usesN y) (k + 1)) ∧ Below w0.heap.size w0 w2 ∧ Row w2 w.heap.size 38 (wantL y a2 a3 a4 a5 c2 c3 c4 c5)) := by
        refine ⟨?_, ?_, ?_⟩
        · show UsedIn w2 bm (n + k + 1) (bump (bumps f 0 (usesN y) k) 0 (gs (usesN y) k))
          rw [hgs]; exact e5
        · have hb1 := hbk.trans (hba.mono hbk.size)
          exact Below.grown (w := (wr.alloc (.cells #[.string (gu y.uses k).name, .int .i64 (gu y.uses k).role, .int .i64 (gu y.uses k).amount] 101)).drew) hb1.drew e6 hb1.size (fun j hj => by cases hj; exact hbm)
        · exact (e6.block _ ok1.lt (fun e => hne (by injection e))).trans ok1
      clear e5 e6 ok1 hle hgs hsz hba huk ok
      subst ha
      go_wp2
      go_region
      all_goals
        go_wp2
        go_roundw
        case rel => exact ⟨k + 1, by omega, by go_num, HR.out.1, HR.out.2.1, HR.out.2.2⟩
        case measure => simp [intOf]; omega
    · have hkk : k = y.uses.length := by omega
      subst hkk
      clear hlt hk
      have hf1 := bumps_le hf 0 (usesN y) y.uses.length
      have z4 := ok.cell 4 rfl
      go_wp2
      go_loopw [7, 29] (fun _ i wr => ∃ (k : Nat), k ≤ y.opens.length ∧ i = .int .i64 k ∧ UsedIn wr bm (n + y.uses.length + k) (bumps (bumps f 0 (usesN y) y.uses.length) 1 y.opens k) ∧ Below w0.heap.size w0 wr ∧ Row wr w.heap.size 38 (wantL y a2 a3 a4 a5 c2 c3 c4 c5)) (fun _ i _ => y.opens.length - (intOf i).toNat)
      case atStart => exact ⟨0, Nat.zero_le _, rfl, huk, hbk, ok⟩
      case round wr =>
        clear huk hbk ok z4
        obtain ⟨k, hk, rfl, huk, hbk, ok⟩ := hrel
        by_cases hlt : k < y.opens.length
        · obtain ⟨b, o, ha, hb, hc⟩ := (hy.later hbk).opens.at hlt
          have hsz : (gs y.opens k).size ≤ maxLen := fy.opens.2 _ (by rw [gs_lt hlt]; exact List.getElem_mem hlt)
          have hle := bumps_le hf1 1 y.opens k 1 (gs y.opens k)
          obtain ⟨st, w1, w2, e1, e2, e3, e4, e5, e6⟩ := (UsedIn.kept (w' := wr.drew) huk rfl).bump (by unfold maxLen; omega) 1 (by decide) (gs y.opens k) hsz (by omega)
          unfold usedV at e1 e2 e3
          rw [← wrap_small (by omega)] at e4
          have HR : Hid (UsedIn w2 bm (n + y.uses.length + (k + 1)) (bumps (bumps f 0 (usesN y) y.uses.length) 1 y.opens (k + 1)) ∧ Below w0.heap.size w0 w2 ∧ Row w2 w.heap.size 38 (wantL y a2 a3 a4 a5 c2 c3 c4 c5)) :=
            ⟨e5, Below.grown (w := wr.drew) hbk.drew e6 hbk.size (fun j hj => by cases hj; exact hbm), (e6.block _ ok.lt (fun e => hne (by injection e))).trans ok⟩
          clear e5 e6 hle hsz huk ok
          subst ha
          go_wp2
          go_region
          all_goals
            go_wp2
            go_roundw
            case rel => exact ⟨k + 1, by omega, by go_num, HR.out.1, HR.out.2.1, HR.out.2.2⟩
            case measure => simp [intOf]; omega
        · have hkk : k = y.opens.length := by omega
          subst hkk
          clear hlt hk
          have hf2 := bumps_le hf1 1 y.opens y.opens.length
          have z5 := ok.cell 5 rfl
          go_wp2
          go_loopw [9, 44] (fun _ i wr => ∃ (k : Nat), k ≤ y.shuts.length ∧ i = .int .i64 k ∧ UsedIn wr bm (n + y.uses.length + y.opens.length + k) (bumps (bumps (bumps f 0 (usesN y) y.uses.length) 1 y.opens y.opens.length) 2 y.shuts k) ∧ Below w0.heap.size w0 wr ∧ Row wr w.heap.size 38 (wantL y a2 a3 a4 a5 c2 c3 c4 c5)) (fun _ i _ => y.shuts.length - (intOf i).toNat)
          case atStart => exact ⟨0, Nat.zero_le _, rfl, huk, hbk, ok⟩
          case round wr =>
            clear huk hbk ok z5
            obtain ⟨k, hk, rfl, huk, hbk, ok⟩ := hrel
            by_cases hlt : k < y.shuts.length
            · obtain ⟨b, o, ha, hb, hc⟩ := (hy.later hbk).shuts.at hlt
              have hsz : (gs y.shuts k).size ≤ maxLen := fy.shuts.2 _ (by rw [gs_lt hlt]; exact List.getElem_mem hlt)
              have hle := bumps_le hf2 2 y.shuts k 2 (gs y.shuts k)
              obtain ⟨st, w1, w2, e1, e2, e3, e4, e5, e6⟩ := (UsedIn.kept (w' := wr.drew) huk rfl).bump (by unfold maxLen; omega) 2 (by decide) (gs y.shuts k) hsz (by omega)
              unfold usedV at e1 e2 e3
              rw [← wrap_small (by omega)] at e4
              have HR : Hid (UsedIn w2 bm (n + y.uses.length + y.opens.length + (k + 1)) (bumps (bumps (bumps f 0 (usesN y) y.uses.length) 1 y.opens y.opens.length) 2 y.shuts (k + 1)) ∧ Below w0.heap.size w0 w2 ∧ Row w2 w.heap.size 38 (wantL y a2 a3 a4 a5 c2 c3 c4 c5)) :=
                ⟨e5, Below.grown (w := wr.drew) hbk.drew e6 hbk.size (fun j hj => by cases hj; exact hbm), (e6.block _ ok.lt (fun e => hne (by injection e))).trans ok⟩
              clear e5 e6 hle hsz huk ok
              subst ha
              go_wp2
              go_region
              all_goals
                go_wp2
                go_roundw
                case rel => exact ⟨k + 1, by omega, by go_num, HR.out.1, HR.out.2.1, HR.out.2.2⟩
                case measure => simp [intOf]; omega
            · have hkk : k = y.shuts.length := by omega
              subst hkk
              clear hlt hk
              go_wp2
              go_end0
              exact ⟨rfl, hbk, huk⟩

end Go.Proofs.YtfmhkicncgccjaaGreat
