/- Joined: BkM1, BkM2, BkM3, BkM4, BkM5, BkP, BkQ, BkR. -/
import Derived.Test.YtfmhkicncgccjaaGreatBkI8
import Derived.Maps.Own
import Derived.Maps.Views
import Derived.WideKeyEntry
import Derived.DeepKeys4
import Derived.Test.YtfmhkicncgccjaaGreatBkS8
import Derived.BigRegion
import Derived.Test.YtfmhkicncgccjaaGreatBkI1
import Derived.Test.YtfmhkicncgccjaaGreatBkI4
import Derived.Test.YtfmhkicncgccjaaGreatBkI6
import Derived.Test.YtfmhkicncgccjaaGreatBkSA
/- The map of what is used: its keys, what a look into it gives. -/
namespace Go.Proofs.YtfmhkicncgccjaaGreat
open Go.RowKit Go.Sort Go.WideMaps Go.Maps
set_option linter.unusedSimpArgs false
set_option linter.unusedVariables false
set_option maxRecDepth 100000

/-- A used thing, as a key. -/
def usedV (way : Int) (name : ByteArray) : Value := .agg #[.int .i64 way, .string name]

theorem rowU : (157 : TypeId) < Tryz.prog.types.size := of_decide_eq_true (by kernel_rfl)
theorem wideU : (match Tryz.prog.underlying 157 with | some (.array _ _) | some (.struct _) => true | _ => false) = true := by kernel_rfl
theorem laidU : laidOutB Tryz.prog = true := by kernel_rfl
theorem typeU : Tryz.prog.keyTypeAt 2 157 = true := by kernel_rfl
theorem lawU : KeyLaw Tryz.prog 157 := deep_law_laid laidU (m := 2) (by omega) rowU typeU wideU
theorem keyedU : Keyed Tryz.prog 157 := Keyed.of_law lawU
theorem zeroU (w : World) : (zeroValue 3).run Tryz.prog w = .ok (.int .i64 0) w := by kernel_rfl
theorem mapU : Tryz.prog.underlying 129 = some (.map 157 3) := by kernel_rfl
theorem intU : Tryz.prog.underlying 3 = some (.int .i64) := by kernel_rfl

theorem keyU (way : Int) (hw : (Lit.int .i64 way).wf = true) (name : ByteArray) (hn : name.size ≤ maxLen) : ∃ kl, keyOf Tryz.prog 157 (usedV way name) = some kl := by
  have e : keyOf Tryz.prog 157 (usedV way name) = (((if IntKind.i64 = IntKind.i64 ∧ (Lit.int .i64 way).wf = true then some [Lit.int .i64 way] else none).bind (fun a => (if name.size ≤ maxLen then some [Lit.string name.data.toList] else none).bind (fun b => some [a, b]))).map List.flatten).map (fun ls => .string (keyBytes ls)) := by kernel_rfl
  rw [e, if_pos ⟨rfl, hw⟩, if_pos hn]
  exact ⟨_, rfl⟩

/-- The map at block b holds, for each used thing, how often it is used; at most n keys. -/
def UsedIn (w : World) (b n : Nat) (f : Int → ByteArray → Nat) : Prop :=
  ∃ D : DataW Unit, w.ownsMap Tryz.prog 157 (plainElem Tryz.prog 3) b n D ∧ IsMap D ∧
    ∀ (way : Int) (name : ByteArray) (kl : Lit), keyOf Tryz.prog 157 (usedV way name) = some kl → D.atKey kl (.lit (.int .i64 0)) = .lit (.int .i64 (f way name))

theorem UsedIn.made (w : World) : UsedIn (w.alloc (.map #[] 0)) w.heap.size 0 (fun _ _ => 0) :=
  ⟨.map [], World.ownsMap_made w _ _ _, isMap_empty, fun _ _ _ _ => rfl⟩

theorem UsedIn.look {w : World} {b n : Nat} {f : Int → ByteArray → Nat} (h : UsedIn w b n f) (way : Int) (hw : (Lit.int .i64 way).wf = true) (name : ByteArray) (hn : name.size ≤ maxLen) :
    (Instr.lookup 129 (.map (some b)) (usedV way name) false).run Tryz.prog w = .ok (.int .i64 (f way name)) w := by
  obtain ⟨D, hD, hm, hf⟩ := h
  obtain ⟨kl, hk⟩ := keyU way hw name hn
  obtain ⟨c, h1, h2, _⟩ := hD.lookup_int keyedU mapU intU (zeroU w) hk
  rw [hf way name kl hk] at h2
  injection h2 with h2
  injection h2 with _ h2
  rw [h1, h2]

theorem UsedIn.kept {w w' : World} {b n : Nat} {f : Int → ByteArray → Nat} (h : UsedIn w b n f) (hb : w'.heap[b]? = w.heap[b]?) : UsedIn w' b n f := by
  obtain ⟨D, ⟨es, clock, h1, h2, h3, h4⟩, hm, hf⟩ := h
  exact ⟨D, ⟨es, clock, hb.trans h1, h2, h3, h4⟩, hm, hf⟩

end Go.Proofs.YtfmhkicncgccjaaGreat

/- One more of a used thing: the entry is made, then written. -/
namespace Go.Proofs.YtfmhkicncgccjaaGreat
open Go.RowKit Go.Sort Go.WideMaps Go.Maps Go.ChangeMaps Go.WideElems
set_option linter.unusedSimpArgs false
set_option linter.unusedVariables false
set_option maxRecDepth 100000

/-- Asking for the entry of a key writes what lies there, or zero: it looks like an update with what a look gives. -/
theorem entry_is_update {H : Type} {P : Program} {w : World} {t k e : TypeId} {R : Value → Option (DataW H × List MemPlace)} {b : Nat} {es : Array MapEntry} {clock : Nat}
    (K : KeyLaw P k) (ht : P.underlying t = some (.map k e)) {z : Value} (hz : ∀ u : World, (zeroValue e).run P u = .ok z u) (hb : w.heap[b]? = some (.map es clock)) (F : Go.WideElems.Fit P k R es clock)
    {key : Value} {kl : Lit} (hkey : keyOf P k key = some kl) :
    ∃ (v0 : Value) (st : Value) (w1 : World), (Instr.mapEntry t (.map (some b)) key).run P w = .ok (.tuple #[v0, st]) w1 ∧ (Instr.mapUpdate t (.map (some b)) key v0).run P w = .ok () w1 ∧
      (Instr.lookup t (.map (some b)) key false).run P w = .ok v0 w := by
  rcases K.find w hkey es.toList F.keys with ⟨h1, h2⟩ | ⟨j, e0, h1, h2, h3⟩
  · refine ⟨z, goInt clock, setBlock w b (.map (es.push ⟨key, z, clock⟩) (clock + 1)), ?_, ?_, ?_⟩
    · simp [Instr.mapEntry, run_underlying ht, MapKept.run_getObj_map hb, K.check w false hkey, h1, hz, MapKept.run_setObj_map _ hb, Result.andThen, setBlock]
    · simp [Instr.mapUpdate, run_underlying ht, MapKept.run_getObj_map hb, K.check w false hkey, h1, MapKept.run_setObj_map _ hb, Result.andThen, setBlock]
    · simp [Instr.lookup, run_underlying ht, MapKept.run_getObj_map hb, K.check w _ hkey, h1, hz, Result.andThen]
  · have hj : es[j]? = some e0 := by simpa using h2
    refine ⟨e0.val, goInt e0.born, setBlock w b (.map (es.modify j (fun e => { e with key := key })) clock), ?_, ?_, ?_⟩
    · simp [Instr.mapEntry, run_underlying ht, MapKept.run_getObj_map hb, K.check w false hkey, h1, hj, h3, K.stays w hkey, MapKept.run_setObj_map _ hb, Result.andThen, setBlock]
    · have hsame : es.modify j (fun e' => { e' with key := key, val := e0.val }) = es.modify j (fun e => { e with key := key }) := by
        apply Array.ext'
        rw [Array.toList_modify, Array.toList_modify, modify_eq_set _ _ _ _ h2, modify_eq_set _ _ _ _ h2]
      simp [Instr.mapUpdate, run_underlying ht, MapKept.run_getObj_map hb, K.check w false hkey, h1, hj, h3, K.stays w hkey, hsame, MapKept.run_setObj_map _ hb, Result.andThen, setBlock]
    · simp [Instr.lookup, run_underlying ht, MapKept.run_getObj_map hb, K.check w _ hkey, h1, Result.andThen]

/-- One more of this thing. -/
def bump (f : Int → ByteArray → Nat) (way : Int) (name : ByteArray) : Int → ByteArray → Nat := fun y m => if y = way ∧ m = name then f y m + 1 else f y m

theorem UsedIn.put {w : World} {b n : Nat} {f : Int → ByteArray → Nat} (h : UsedIn w b n f) (hn : n < maxLen) (way : Int) (hw : (Lit.int .i64 way).wf = true) (name : ByteArray) (hs : name.size ≤ maxLen) (c : Nat) (hc : (Lit.int .i64 (c : Int)).wf = true) :
    ∃ w2, (Instr.mapUpdate 129 (.map (some b)) (usedV way name) (.int .i64 c)).run Tryz.prog w = .ok () w2 ∧ UsedIn w2 b (n + 1) (fun y m => if y = way ∧ m = name then c else f y m) ∧ w.grownBy w2 (some b) := by
  obtain ⟨D, hD, hm, hf⟩ := h
  obtain ⟨kl, hk⟩ := keyU way hw name hs
  obtain ⟨w2, h1, h2, h3⟩ := hD.update keyedU mapU hn hk (plainElem_int intU hc)
  refine ⟨w2, h1, ⟨_, h2, hm.put _ _, fun y m kl' hk' => ?_⟩, h3⟩
  show _ = DataW.lit (Lit.int .i64 ((if y = way ∧ m = name then c else f y m : Nat) : Int))
  by_cases e : y = way ∧ m = name
  · rw [if_pos e]
    obtain ⟨rfl, rfl⟩ := e
    rw [hk] at hk'
    injection hk' with hk'
    subst hk'
    exact atKey_put_same hm (keyedU.key hk) _ _
  · rw [if_neg e]
    have hne : kl' ≠ kl := fun e1 => by
      subst e1
      have := keyedU.inj hk' hk
      unfold usedV at this
      injection this with this
      simp at this
      exact e this
    rw [atKey_put_other hne]
    exact hf y m kl' hk'

theorem UsedIn.congr {w : World} {b n : Nat} {f g : Int → ByteArray → Nat} (h : UsedIn w b n f) (e : ∀ y m, f y m = g y m) : UsedIn w b n g := by
  have : f = g := funext fun y => funext fun m => e y m
  rw [← this]; exact h

theorem wf_of_small {c : Int} (h0 : 0 ≤ c) (h : c ≤ 1000000) : (Lit.int .i64 c).wf = true := by
  have e1 : IntKind.i64.min = -9223372036854775808 := rfl
  have e2 : IntKind.i64.max = 9223372036854775807 := rfl
  simp [Lit.wf, e1, e2]; omega

theorem UsedIn.bump {w : World} {b n : Nat} {f : Int → ByteArray → Nat} (h : UsedIn w b n f) (hn : n < maxLen) (way : Int) (hw : (Lit.int .i64 way).wf = true) (name : ByteArray) (hs : name.size ≤ maxLen) (hc : f way name < 100000) :
    ∃ st w1 w2, (Instr.mapEntry 129 (.map (some b)) (usedV way name)).run Tryz.prog w = .ok (.tuple #[.int .i64 (f way name), st]) w1 ∧
      (Instr.lookup 129 (.map (some b)) (usedV way name) false).run Tryz.prog w = .ok (.int .i64 (f way name)) w ∧
      (Instr.lookup 129 (.map (some b)) (usedV way name) false).run Tryz.prog w1 = .ok (.int .i64 (f way name)) w1 ∧
      (Instr.entryStore 129 (.map (some b)) st (.int .i64 ((f way name : Int) + 1))).run Tryz.prog w1 = .ok () w2 ∧
      UsedIn w2 b (n + 1) (bump f way name) ∧ w.grownBy w2 (some b) := by
  have hl := h.look way hw name hs
  have hk := keyU way hw name hs
  have hu1 := h.put hn way hw name hs (f way name) (wf_of_small (by omega) (by omega))
  have hu2 := h.put hn way hw name hs (f way name + 1) (wf_of_small (by omega) (by omega))
  obtain ⟨kl, hk⟩ := hk
  obtain ⟨D, ⟨es, clock, hb, F, hsz, hD⟩, hm, hf⟩ := h
  obtain ⟨v0, st, w1, e1, e2, e3⟩ := entry_is_update lawU mapU zeroU hb F hk
  rw [hl] at e3
  injection e3 with e3 _
  subst e3
  obtain ⟨w1', g1, g2, g3⟩ := hu1
  rw [e2] at g1
  injection g1 with _ g1
  subst g1
  obtain ⟨v0', st', es1, clock1, k1, _, k3⟩ := entry_then_store lawU mapU zeroU hb F hk
  rw [e1] at k1
  injection k1 with k1 k2
  injection k1 with k1
  simp at k1
  obtain ⟨rfl, rfl⟩ := k1
  obtain ⟨w2, q1, q2, q3⟩ := hu2
  have hw1 : w1.heap[b]? = some (.map es1 clock1) := by rw [k2]; exact heap_setBlock_same hb _
  obtain ⟨es', clock', r1, r2⟩ := k3 w1 (.int .i64 ((f way name + 1 : Nat) : Int)) hw1
  rw [q1] at r2
  injection r2 with _ r2
  refine ⟨_, w1, w2, e1, hl, ?_, ?_, q2.congr (fun y m => ?_), q3⟩
  · have := g2.look way hw name hs
    simpa using this
  · rw [show ((f way name : Int) + 1) = ((f way name + 1 : Nat) : Int) by omega, r1, r2, k2]
    simp [setBlock, Array.setIfInBounds_setIfInBounds]
  · unfold Proofs.YtfmhkicncgccjaaGreat.bump
    by_cases e : y = way ∧ m = name
    · rw [if_pos e, if_pos e, e.1, e.2]
    · rw [if_neg e, if_neg e]

end Go.Proofs.YtfmhkicncgccjaaGreat

/- A want uses a place that is used already: looks into the map. -/
namespace Go.Proofs.YtfmhkicncgccjaaGreat
open Go.RowKit Go.Sort Go.Maps
set_option linter.unusedSimpArgs false
set_option linter.unusedVariables false
set_option maxRecDepth 100000

theorem UsedIn.lt {w : World} {b n : Nat} {f : Int → ByteArray → Nat} (h : UsedIn w b n f) : b < w.heap.size := by
  obtain ⟨D, hD, _⟩ := h
  exact hD.lt
theorem UsedIn.later {w w' : World} {b n : Nat} {f : Int → ByteArray → Nat} (h : UsedIn w b n f) (hb : Below w.heap.size w w') : UsedIn w' b n f := h.kept (hb.block _ h.lt)

set_option maxHeartbeats 2000000 in
theorem usesPlaceOf_any (bm n : Nat) (f : Int → ByteArray → Nat) (y : Want) (a2 a3 a4 a5 : Option Addr) (c2 c3 c4 c5 : Nat) (w : World) (hu : UsedIn w bm n f) (hy : WantIn w y a2 a3 a4 a5) (fy : WantFit y) :
    Calls Tryz.prog 105 #[.map (some bm), wantW y a2 a3 a4 a5 c2 c3 c4 c5] w fun e w' => e = .returned (.bool (anyTo y.uses.length (fun i => decide (0 < f 0 (gu y.uses i).name)))) ∧ Below w.heap.size w w' := by
  have hl3 := fy.usesLen
  unfold maxLen at hl3
  unfold wantW
  have b0 : Below w.heap.size w (w.alloc (.cells (wantL y a2 a3 a4 a5 c2 c3 c4 c5).toArray 38)) := (Below.refl _ _).alloc (Nat.le_refl _) _
  go_enter Tryz.func105, Tryz.ntmps105
  go_wp2
  go_loopw [6, 10] (fun _ i wr => ∃ (k : Nat), k ≤ y.uses.length ∧ i = .int .i64 k ∧ allTo k (fun i => !decide (0 < f 0 (gu y.uses i).name)) = true ∧ Below (w.alloc (.cells (wantL y a2 a3 a4 a5 c2 c3 c4 c5).toArray 38)).heap.size (w.alloc (.cells (wantL y a2 a3 a4 a5 c2 c3 c4 c5).toArray 38)) wr) (fun _ i _ => y.uses.length - (intOf i).toNat)
  case atStart => exact ⟨0, Nat.zero_le _, rfl, rfl, Below.refl _ _⟩
  case round wr =>
    obtain ⟨k, hk, rfl, hall, hbel⟩ := hrel
    have hbw := b0.trans (hbel.mono b0.size)
    by_cases hlt : k < y.uses.length
    · obtain ⟨b, o, ha, hb, hc0, hc1, hc2⟩ := (hy.later hbw).uses.at hlt
      have hsz : (gu y.uses k).name.size ≤ maxLen := fy.usesNames _ (by rw [gu_lt hlt]; exact List.getElem_mem hlt)
      have hba : Below wr.heap.size wr (wr.alloc (.cells #[.string (gu y.uses k).name, .int .i64 (gu y.uses k).role, .int .i64 (gu y.uses k).amount] 101)) := (Below.refl _ _).alloc (Nat.le_refl _) _
      have hrun := ((hu.later hbw).later hba).look 0 (by decide) (gu y.uses k).name hsz
      unfold usedV at hrun
      have hbel1 := hbel.trans (hba.mono hbel.size)
      subst ha
      generalize hf0 : f 0 (gu y.uses k).name = c at hrun
      have HF : Hid (f 0 (gu y.uses k).name = c) := hf0
      clear hf0 hba hsz
      by_cases hq : 0 < c
      · have hq' : (0 : Int) < c := by omega
        go_wp2
        go_ret
        exact ⟨ret_bool (anyTo_iff.2 ⟨k, hlt, by rw [HF.out]; exact decide_eq_true hq⟩).symm, b0.trans (hbel1.mono b0.size)⟩
      · have hq' : ¬ (0 : Int) < c := by omega
        go_wp2
        go_roundw
        case rel => exact ⟨k + 1, by omega, by go_num, allTo_succ hall (by rw [HF.out, decide_eq_false hq]; rfl), hbel1⟩
        case measure => simp [intOf]; omega
    · go_wp2
      go_ret
      have : k = y.uses.length := by omega
      subst this
      exact ⟨ret_bool (by unfold anyTo; rw [hall]; rfl), hbw⟩

/-- A want's valves cross what the map holds. -/
def crossI (f : Int → ByteArray → Nat) (y : Want) : Bool := anyTo y.opens.length (fun i => decide (0 < f 1 (gs y.opens i)) || decide (0 < f 2 (gs y.opens i))) || anyTo y.shuts.length (fun i => decide (0 < f 1 (gs y.shuts i)))

set_option maxHeartbeats 2000000 in
theorem crosses_any (bm n : Nat) (f : Int → ByteArray → Nat) (y : Want) (a2 a3 a4 a5 : Option Addr) (c2 c3 c4 c5 : Nat) (w : World) (hu : UsedIn w bm n f) (hy : WantIn w y a2 a3 a4 a5) (fy : WantFit y) :
    Calls Tryz.prog 106 #[.map (some bm), wantW y a2 a3 a4 a5 c2 c3 c4 c5] w fun e w' => e = .returned (.bool (crossI f y)) ∧ Below w.heap.size w w' := by
  have hl4 := fy.opens.1
  have hl5 := fy.shuts.1
  unfold maxLen at hl4 hl5
  unfold wantW
  have b0 : Below w.heap.size w (w.alloc (.cells #[.int .i64 y.number, .int .i64 y.kind, .slice a2 y.stuffs.length c2, .slice a3 y.uses.length c3, .slice a4 y.opens.length c4, .slice a5 y.shuts.length c5] 38)) := (Below.refl _ _).alloc (Nat.le_refl _) _
  have hy0 := hy.later b0
  have hu0 := hu.later b0
  go_enter Tryz.func106, Tryz.ntmps106
  go_wp2
  go_loop [6, 12] (fun _ i => ∃ (k : Nat), k ≤ y.opens.length ∧ i = .int .i64 k ∧ allTo k (fun i => !(decide (0 < f 1 (gs y.opens i)) || decide (0 < f 2 (gs y.opens i)))) = true) (fun _ i => y.opens.length - (intOf i).toNat)
  case atStart => exact ⟨0, Nat.zero_le _, rfl, rfl⟩
  case round =>
    obtain ⟨k, hk, rfl, hall⟩ := hrel
    by_cases hlt : k < y.opens.length
    · obtain ⟨b, o, ha, hb, hc⟩ := hy0.opens.at hlt
      have hsz : (gs y.opens k).size ≤ maxLen := fy.opens.2 _ (by rw [gs_lt hlt]; exact List.getElem_mem hlt)
      have hrun1 := hu0.look 1 (by decide) (gs y.opens k) hsz
      have hrun2 := hu0.look 2 (by decide) (gs y.opens k) hsz
      unfold usedV at hrun1 hrun2
      subst ha
      generalize hf1 : f 1 (gs y.opens k) = c at hrun1
      have HF1 : Hid (f 1 (gs y.opens k) = c) := hf1
      generalize hf2 : f 2 (gs y.opens k) = d at hrun2
      have HF2 : Hid (f 2 (gs y.opens k) = d) := hf2
      clear hf1 hf2 hsz
      by_cases hq : 0 < c
      · have hq' : (0 : Int) < c := by omega
        go_wp2
        go_ret
        exact ⟨ret_bool (by unfold crossI; rw [anyTo_iff.2 ⟨k, hlt, by rw [HF1.out, decide_eq_true hq]; rfl⟩]; rfl), b0⟩
      · have hq' : ¬ (0 : Int) < c := by omega
        by_cases hp : 0 < d
        · have hp' : (0 : Int) < d := by omega
          go_wp2
          go_ret
          exact ⟨ret_bool (by unfold crossI; rw [anyTo_iff.2 ⟨k, hlt, by rw [HF2.out, decide_eq_true hp, Bool.or_true]⟩]; rfl), b0⟩
        · have hp' : ¬ (0 : Int) < d := by omega
          go_wp2
          go_round
          case rel => exact ⟨k + 1, by omega, by go_num, allTo_succ hall (by rw [HF1.out, HF2.out, decide_eq_false hq, decide_eq_false hp]; rfl)⟩
          case measure => simp [intOf]; omega
    · have hkk : k = y.opens.length := by omega
      have HA1 : Hid (anyTo y.opens.length (fun i => decide (0 < f 1 (gs y.opens i)) || decide (0 < f 2 (gs y.opens i))) = false) := by rw [← hkk]; unfold anyTo Hid; rw [hall]; rfl
      clear hall
      go_wp2
      go_loop [8, 32] (fun _ i => ∃ (k : Nat), k ≤ y.shuts.length ∧ i = .int .i64 k ∧ allTo k (fun i => !decide (0 < f 1 (gs y.shuts i))) = true) (fun _ i => y.shuts.length - (intOf i).toNat)
      case atStart => exact ⟨0, Nat.zero_le _, rfl, rfl⟩
      case round =>
        obtain ⟨k2, hk2, rfl, hall⟩ := hrel
        by_cases hlt2 : k2 < y.shuts.length
        · obtain ⟨b, o, ha, hb, hc⟩ := hy0.shuts.at hlt2
          have hsz : (gs y.shuts k2).size ≤ maxLen := fy.shuts.2 _ (by rw [gs_lt hlt2]; exact List.getElem_mem hlt2)
          have hrun1 := hu0.look 1 (by decide) (gs y.shuts k2) hsz
          unfold usedV at hrun1
          subst ha
          generalize hf1 : f 1 (gs y.shuts k2) = c at hrun1
          have HF1 : Hid (f 1 (gs y.shuts k2) = c) := hf1
          clear hf1 hsz
          by_cases hq : 0 < c
          · have hq' : (0 : Int) < c := by omega
            go_wp2
            go_ret
            exact ⟨ret_bool (by unfold crossI; rw [HA1.out, anyTo_iff.2 ⟨k2, hlt2, by rw [HF1.out, decide_eq_true hq]⟩]; rfl), b0⟩
          · have hq' : ¬ (0 : Int) < c := by omega
            go_wp2
            go_round
            case rel => exact ⟨k2 + 1, by omega, by go_num, allTo_succ hall (by rw [HF1.out, decide_eq_false hq]; rfl)⟩
            case measure => simp [intOf]; omega
        · go_wp2
          go_ret
          have : k2 = y.shuts.length := by omega
          subst this
          exact ⟨ret_bool (by unfold crossI; rw [HA1.out]; unfold anyTo; rw [hall]; rfl), b0⟩

end Go.Proofs.YtfmhkicncgccjaaGreat

/- The program adds what a want uses to the map. -/
namespace Go.Proofs.YtfmhkicncgccjaaGreat
open Go.RowKit Go.Sort Go.Maps
set_option linter.unusedSimpArgs false
set_option linter.unusedVariables false
set_option maxRecDepth 100000

/-- The map's counts behind the first k of some names. -/
def bumps (f : Int → ByteArray → Nat) (way : Int) (ss : List ByteArray) : Nat → Int → ByteArray → Nat
  | 0 => f
  | k + 1 => bump (bumps f way ss k) way (gs ss k)

theorem bumps_le {f : Int → ByteArray → Nat} {n : Nat} (hf : ∀ y m, f y m ≤ n) (way : Int) (ss : List ByteArray) : ∀ (k : Nat) y m, bumps f way ss k y m ≤ n + k
  | 0, y, m => hf y m
  | k + 1, y, m => by
    have := bumps_le hf way ss k y m
    unfold bumps bump
    split <;> omega

theorem wrap_small {c : Nat} (h : c ≤ 100000) : wrap64 ((c : Int) + 1) = (c : Int) + 1 := by
  unfold wrap64; omega

set_option maxHeartbeats 4000000 in
theorem addUsed_any (bm n : Nat) (f : Int → ByteArray → Nat) (y : Want) (a2 a3 a4 a5 : Option Addr) (c2 c3 c4 c5 : Nat) (w0 w : World) (hbw : Below w0.heap.size w0 w) (hbm : w0.heap.size ≤ bm) (hu : UsedIn w bm n f) (hn : n ≤ 1000) (hf : ∀ y m, f y m ≤ n) (h3 : y.uses.length ≤ 20) (h4 : y.opens.length ≤ 20) (h5 : y.shuts.length ≤ 20) (hy : WantIn w0 y a2 a3 a4 a5) (fy : WantFit y) :
    Calls Tryz.prog 107 #[.map (some bm), wantW y a2 a3 a4 a5 c2 c3 c4 c5] w fun e w' => e = .returned (.tuple #[]) ∧ Below w0.heap.size w0 w' ∧ UsedIn w' bm (n + y.uses.length + y.opens.length + y.shuts.length) (bumps (bumps (bumps f 0 (usesN y) y.uses.length) 1 y.opens y.opens.length) 2 y.shuts y.shuts.length) := by
  unfold wantW
  have b0 : Below w.heap.size w (w.alloc (.cells #[.int .i64 y.number, .int .i64 y.kind, .slice a2 y.stuffs.length c2, .slice a3 y.uses.length c3, .slice a4 y.opens.length c4, .slice a5 y.shuts.length c5] 38)) := (Below.refl _ _).alloc (Nat.le_refl _) _
  have o0 : Row (w.alloc (.cells #[.int .i64 y.number, .int .i64 y.kind, .slice a2 y.stuffs.length c2, .slice a3 y.uses.length c3, .slice a4 y.opens.length c4, .slice a5 y.shuts.length c5] 38)) w.heap.size 38 (wantL y a2 a3 a4 a5 c2 c3 c4 c5) := Row.new w 38 (wantL y a2 a3 a4 a5 c2 c3 c4 c5)
  have hne : w.heap.size ≠ bm := by have := hu.lt; omega
  have hbw0 := hbw.trans (b0.mono hbw.size)
  have hu0 := hu.later b0
  go_enter Tryz.func107, Tryz.ntmps107
  go_wp2
  go_loopw [5, 13] (fun _ i wr => ∃ (k : Nat), k ≤ y.uses.length ∧ i = .int .i64 k ∧ UsedIn wr bm (n + k) (bumps f 0 (usesN y) k) ∧ Below w0.heap.size w0 wr ∧ Row wr w.heap.size 38 (wantL y a2 a3 a4 a5 c2 c3 c4 c5)) (fun _ i _ => y.uses.length - (intOf i).toNat)
  case atStart => exact ⟨0, Nat.zero_le _, rfl, hu0, hbw0, o0⟩
  case round wr =>
    clear hu0 hbw0 o0 b0
    obtain ⟨k, hk, rfl, huk, hbk, ok⟩ := hrel
    by_cases hlt : k < y.uses.length
    · obtain ⟨b, o, ha, hb, hc0, hc1, hc2⟩ := (hy.later hbk).uses.at hlt
      have hsz : (gu y.uses k).name.size ≤ maxLen := fy.usesNames _ (by rw [gu_lt hlt]; exact List.getElem_mem hlt)
      have hgs : gs (usesN y) k = (gu y.uses k).name := by unfold gs; rw [List.getD_eq_getElem?_getD, usesN_at hlt]; rfl
      have hba : Below wr.heap.size wr (wr.alloc (.cells #[.string (gu y.uses k).name, .int .i64 (gu y.uses k).role, .int .i64 (gu y.uses k).amount] 101)) := (Below.refl _ _).alloc (Nat.le_refl _) _
      have ok1 := ok.later hba
      have hle := bumps_le hf 0 (usesN y) k 0 (gu y.uses k).name
      obtain ⟨st, w1, w2, e1, e2, e3, e4, e5, e6⟩ := (UsedIn.kept (w' := (wr.alloc (.cells #[.string (gu y.uses k).name, .int .i64 (gu y.uses k).role, .int .i64 (gu y.uses k).amount] 101)).drew) (huk.later hba) rfl).bump (by unfold maxLen; omega) 0 (by decide) (gu y.uses k).name hsz (by omega)
      unfold usedV at e1 e2 e3
      rw [← wrap_small (by omega)] at e4
      have HR : Hid (UsedIn w2 bm (n + (k + 1)) (bumps f 0 (usesN y) (k + 1)) ∧ Below w0.heap.size w0 w2 ∧ Row w2 w.heap.size 38 (wantL y a2 a3 a4 a5 c2 c3 c4 c5)) := by
        refine ⟨?_, ?_, ?_⟩
        · show UsedIn w2 bm (n + k + 1) (bump (bumps f 0 (usesN y) k) 0 (gs (usesN y) k))
          rw [hgs]; exact e5
        · have hb1 := hbk.trans (hba.mono hbk.size)
          exact Below.grown (w := (wr.alloc (.cells #[.string (gu y.uses k).name, .int .i64 (gu y.uses k).role, .int .i64 (gu y.uses k).amount] 101)).drew) hb1.drew e6 hb1.size (fun j hj => by cases hj; exact hbm)
        · exact (e6.block _ ok1.lt (fun e => hne (by injection e))).trans ok1
      clear e5 e6 ok1 hle hgs hsz hba huk ok
      subst ha
      go_wp2
      go_region
      all_goals
        go_wp2
        go_roundw
        case rel => exact ⟨k + 1, by omega, by go_num, HR.out.1, HR.out.2.1, HR.out.2.2⟩
        case measure => simp [intOf]; omega
    · have hkk : k = y.uses.length := by omega
      subst hkk
      clear hlt hk
      have hf1 := bumps_le hf 0 (usesN y) y.uses.length
      have z4 := ok.cell 4 rfl
      go_wp2
      go_loopw [7, 29] (fun _ i wr => ∃ (k : Nat), k ≤ y.opens.length ∧ i = .int .i64 k ∧ UsedIn wr bm (n + y.uses.length + k) (bumps (bumps f 0 (usesN y) y.uses.length) 1 y.opens k) ∧ Below w0.heap.size w0 wr ∧ Row wr w.heap.size 38 (wantL y a2 a3 a4 a5 c2 c3 c4 c5)) (fun _ i _ => y.opens.length - (intOf i).toNat)
      case atStart => exact ⟨0, Nat.zero_le _, rfl, huk, hbk, ok⟩
      case round wr =>
        clear huk hbk ok z4
        obtain ⟨k, hk, rfl, huk, hbk, ok⟩ := hrel
        by_cases hlt : k < y.opens.length
        · obtain ⟨b, o, ha, hb, hc⟩ := (hy.later hbk).opens.at hlt
          have hsz : (gs y.opens k).size ≤ maxLen := fy.opens.2 _ (by rw [gs_lt hlt]; exact List.getElem_mem hlt)
          have hle := bumps_le hf1 1 y.opens k 1 (gs y.opens k)
          obtain ⟨st, w1, w2, e1, e2, e3, e4, e5, e6⟩ := (UsedIn.kept (w' := wr.drew) huk rfl).bump (by unfold maxLen; omega) 1 (by decide) (gs y.opens k) hsz (by omega)
          unfold usedV at e1 e2 e3
          rw [← wrap_small (by omega)] at e4
          have HR : Hid (UsedIn w2 bm (n + y.uses.length + (k + 1)) (bumps (bumps f 0 (usesN y) y.uses.length) 1 y.opens (k + 1)) ∧ Below w0.heap.size w0 w2 ∧ Row w2 w.heap.size 38 (wantL y a2 a3 a4 a5 c2 c3 c4 c5)) :=
            ⟨e5, Below.grown (w := wr.drew) hbk.drew e6 hbk.size (fun j hj => by cases hj; exact hbm), (e6.block _ ok.lt (fun e => hne (by injection e))).trans ok⟩
          clear e5 e6 hle hsz huk ok
          subst ha
          go_wp2
          go_region
          all_goals
            go_wp2
            go_roundw
            case rel => exact ⟨k + 1, by omega, by go_num, HR.out.1, HR.out.2.1, HR.out.2.2⟩
            case measure => simp [intOf]; omega
        · have hkk : k = y.opens.length := by omega
          subst hkk
          clear hlt hk
          have hf2 := bumps_le hf1 1 y.opens y.opens.length
          have z5 := ok.cell 5 rfl
          go_wp2
          go_loopw [9, 44] (fun _ i wr => ∃ (k : Nat), k ≤ y.shuts.length ∧ i = .int .i64 k ∧ UsedIn wr bm (n + y.uses.length + y.opens.length + k) (bumps (bumps (bumps f 0 (usesN y) y.uses.length) 1 y.opens y.opens.length) 2 y.shuts k) ∧ Below w0.heap.size w0 wr ∧ Row wr w.heap.size 38 (wantL y a2 a3 a4 a5 c2 c3 c4 c5)) (fun _ i _ => y.shuts.length - (intOf i).toNat)
          case atStart => exact ⟨0, Nat.zero_le _, rfl, huk, hbk, ok⟩
          case round wr =>
            clear huk hbk ok z5
            obtain ⟨k, hk, rfl, huk, hbk, ok⟩ := hrel
            by_cases hlt : k < y.shuts.length
            · obtain ⟨b, o, ha, hb, hc⟩ := (hy.later hbk).shuts.at hlt
              have hsz : (gs y.shuts k).size ≤ maxLen := fy.shuts.2 _ (by rw [gs_lt hlt]; exact List.getElem_mem hlt)
              have hle := bumps_le hf2 2 y.shuts k 2 (gs y.shuts k)
              obtain ⟨st, w1, w2, e1, e2, e3, e4, e5, e6⟩ := (UsedIn.kept (w' := wr.drew) huk rfl).bump (by unfold maxLen; omega) 2 (by decide) (gs y.shuts k) hsz (by omega)
              unfold usedV at e1 e2 e3
              rw [← wrap_small (by omega)] at e4
              have HR : Hid (UsedIn w2 bm (n + y.uses.length + y.opens.length + (k + 1)) (bumps (bumps (bumps f 0 (usesN y) y.uses.length) 1 y.opens y.opens.length) 2 y.shuts (k + 1)) ∧ Below w0.heap.size w0 w2 ∧ Row w2 w.heap.size 38 (wantL y a2 a3 a4 a5 c2 c3 c4 c5)) :=
                ⟨e5, Below.grown (w := wr.drew) hbk.drew e6 hbk.size (fun j hj => by cases hj; exact hbm), (e6.block _ ok.lt (fun e => hne (by injection e))).trans ok⟩
              clear e5 e6 hle hsz huk ok
              subst ha
              go_wp2
              go_region
              all_goals
                go_wp2
                go_roundw
                case rel => exact ⟨k + 1, by omega, by go_num, HR.out.1, HR.out.2.1, HR.out.2.2⟩
                case measure => simp [intOf]; omega
            · have hkk : k = y.shuts.length := by omega
              subst hkk
              clear hlt hk
              go_wp2
              go_end0
              exact ⟨rfl, hbk, huk⟩

end Go.Proofs.YtfmhkicncgccjaaGreat

/- What the program's partsApart answers: each part against the map of those ahead of it. -/
namespace Go.Proofs.YtfmhkicncgccjaaGreat
open Go.RowKit Go.Sort Go.Maps
set_option linter.unusedSimpArgs false
set_option linter.unusedVariables false
set_option maxRecDepth 100000

theorem cellKept {w w' : World} (h : Below w.heap.size w w') {a : Addr} {v : Value} (hc : w.cell? a = some v) : w'.cell? a = some v := by
  rw [h.cell (World.block_lt_of_cell? w a hc)]; exact hc

/-- The counts behind the first k parts. -/
def countsTo (x : Book) : Nat → Int → ByteArray → Nat
  | 0 => fun _ _ => 0
  | k + 1 => bumps (bumps (bumps (countsTo x k) 0 (usesN (gq x.parts k).want) (gq x.parts k).want.uses.length) 1 (gq x.parts k).want.opens (gq x.parts k).want.opens.length) 2 (gq x.parts k).want.shuts (gq x.parts k).want.shuts.length

/-- A want uses a place that is counted. -/
def usedB (f : Int → ByteArray → Nat) (y : Want) : Bool := anyTo y.uses.length (fun i => decide (0 < f 0 (gu y.uses i).name))
/-- Part k is apart from those ahead, as the program asks. -/
def apartAt (x : Book) (k : Nat) : Bool := !(usedB (countsTo x k) (gq x.parts k).want || crossI (countsTo x k) (gq x.parts k).want)

set_option maxHeartbeats 4000000 in
theorem partsApart_any (x : Book) (af ap av aq : Option Addr) (cf cp cv cq : Nat) (w : World) (hx : BookIn w x af ap av aq) (fx : BookFit x) (h6 : x.parts.length ≤ 6) (hlen : ∀ k, k < x.parts.length → (gq x.parts k).want.uses.length ≤ 20 ∧ (gq x.parts k).want.opens.length ≤ 20 ∧ (gq x.parts k).want.shuts.length ≤ 20) :
    Calls Tryz.prog 56 #[bookV x af ap av aq cf cp cv cq] w fun e w' => e = .returned (.bool (allTo x.parts.length (apartAt x))) ∧ Below w.heap.size w w' := by
  unfold bookV
  have hmm := @run_makeMap Tryz.prog
  have b0 : Below w.heap.size w ((w.alloc (.cells (bookL x af ap av aq cf cp cv cq).toArray 28)).alloc (.map #[] 0)) := ((Below.refl _ _).alloc (Nat.le_refl _) _).alloc (by simp) _
  have hu0 : UsedIn ((w.alloc (.cells (bookL x af ap av aq cf cp cv cq).toArray 28)).alloc (.map #[] 0)) (w.heap.size + 1) 0 (fun _ _ => 0) := by
    have := UsedIn.made (w.alloc (.cells (bookL x af ap av aq cf cp cv cq).toArray 28))
    simpa using this
  go_enter Tryz.func56, Tryz.ntmps56
  go_wp2
  go_loopw [5, 10] (fun _ i wr => ∃ (k n : Nat), k ≤ x.parts.length ∧ i = .int .i64 k ∧ allTo k (apartAt x) = true ∧ n ≤ 60 * k ∧ UsedIn wr (w.heap.size + 1) n (countsTo x k) ∧ (∀ y m, countsTo x k y m ≤ n) ∧ Below w.heap.size w wr) (fun _ i _ => x.parts.length - (intOf i).toNat)
  case atStart => exact ⟨0, 0, Nat.zero_le _, rfl, rfl, Nat.zero_le _, hu0, fun _ _ => Nat.le_refl _, b0⟩
  case round wr =>
    clear hu0 b0
    obtain ⟨k, n, hk, rfl, hall, hn, hu, hle, hbw⟩ := hrel
    by_cases hlt : k < x.parts.length
    · obtain ⟨b, o, a2, a3, a4, a5, c2, c3, c4, c5, ha, hb, hc0, hc1, hc2, hc3, hc4, hc5, hc6, hst⟩ := hx.parts.at hlt
      have hfp := fx.parts.wants _ (gq_mem hlt)
      have hd0 := cellKept hbw hc0
      have hd1 := cellKept hbw hc1
      have hd2 := cellKept hbw hc2
      have hd3 := cellKept hbw hc3
      have hd4 := cellKept hbw hc4
      have hd5 := cellKept hbw hc5
      have hd6 := cellKept hbw hc6
      have hb' : b < wr.heap.size := Nat.lt_of_lt_of_le hb hbw.size
      have hba : Below wr.heap.size wr (wr.alloc (.cells #[.int .i64 (gq x.parts k).want.number, .int .i64 (gq x.parts k).want.kind, .slice a2 (gq x.parts k).want.stuffs.length c2, .slice a3 (gq x.parts k).want.uses.length c3, .slice a4 (gq x.parts k).want.opens.length c4, .slice a5 (gq x.parts k).want.shuts.length c5, .bool (gq x.parts k).stopped] 61)) := (Below.refl _ _).alloc (Nat.le_refl _) _
      have frow := Row.new wr 61 (partL (gq x.parts k) a2 a3 a4 a5 c2 c3 c4 c5)
      have hbwa := hbw.trans (hba.mono hbw.size)
      have hua := hu.later hba
      subst ha
      go_wp2_with fail
      refine (usesPlaceOf_any (w.heap.size + 1) n (countsTo x k) (gq x.parts k).want a2 a3 a4 a5 c2 c3 c4 c5 _ hua (hst.later hbwa) hfp).mono ?_
      rintro e w1 ⟨rfl, hb1⟩
      have row1 := frow.later hb1
      have hu1 := hua.later hb1
      have hbw1 := hbwa.trans (hb1.mono hbwa.size)
      clear hd0 hd1 hd2 hd3 hd4 hd5 hd6 hc0 hc1 hc2 hc3 hc4 hc5 hc6 hba frow hbwa hua hb1 hu hbw
      cases hq1 : anyTo (gq x.parts k).want.uses.length (fun i => decide (0 < countsTo x k 0 (gu (gq x.parts k).want.uses i).name)) with
      | true =>
        go_wp2
        go_ret
        exact ⟨ret_bool (allTo_false k hlt (by unfold apartAt usedB; rw [hq1]; rfl)).symm, hbw1⟩
      | false =>
      have f0 := row1.cell 0 rfl
      have f1 := row1.cell 1 rfl
      have f2 := row1.cell 2 rfl
      have f3 := row1.cell 3 rfl
      have f4 := row1.cell 4 rfl
      have f5 := row1.cell 5 rfl
      go_wp2_with fail
      refine (crosses_any (w.heap.size + 1) n (countsTo x k) (gq x.parts k).want a2 a3 a4 a5 c2 c3 c4 c5 _ hu1 (hst.later hbw1) hfp).mono ?_
      rintro e w2 ⟨rfl, hb2⟩
      have row2 := row1.later hb2
      have hu2 := hu1.later hb2
      have hbw2 := hbw1.trans (hb2.mono hbw1.size)
      clear f0 f1 f2 f3 f4 f5 row1 hu1 hbw1 hb2
      cases hq2 : crossI (countsTo x k) (gq x.parts k).want with
      | true =>
        go_wp2
        go_ret
        exact ⟨ret_bool (allTo_false k hlt (by unfold apartAt; rw [hq2, Bool.or_true]; rfl)).symm, hbw2⟩
      | false =>
      have f0 := row2.cell 0 rfl
      have f1 := row2.cell 1 rfl
      have f2 := row2.cell 2 rfl
      have f3 := row2.cell 3 rfl
      have f4 := row2.cell 4 rfl
      have f5 := row2.cell 5 rfl
      have hl := hlen k hlt
      go_wp2_with fail
      refine (addUsed_any (w.heap.size + 1) n (countsTo x k) (gq x.parts k).want a2 a3 a4 a5 c2 c3 c4 c5 w _ hbw2 (by omega) hu2 (by omega) hle hl.1 hl.2.1 hl.2.2 hst hfp).mono ?_
      rintro e w3 ⟨rfl, hbw3, hu3⟩
      go_wp2
      go_roundw
      case rel => exact ⟨k + 1, n + (gq x.parts k).want.uses.length + (gq x.parts k).want.opens.length + (gq x.parts k).want.shuts.length, by omega, by go_num, allTo_succ hall (by unfold apartAt usedB; rw [hq1, hq2]; rfl), by omega, hu3, bumps_le (bumps_le (bumps_le hle _ _ _) _ _ _) _ _ _, hbw3⟩
      case measure => simp [intOf]; omega
    · go_wp2
      go_ret
      have : k = x.parts.length := by omega
      subst this
      exact ⟨ret_bool hall.symm, hbw⟩

end Go.Proofs.YtfmhkicncgccjaaGreat

/- The program's six looks at a book, taken together, are the specification's one. -/
namespace Go.Proofs.YtfmhkicncgccjaaGreat
open Go.RowKit Go.Sort
set_option linter.unusedSimpArgs false
set_option linter.unusedVariables false

/-- No part meets one ahead of it. -/
def apartB (x : Book) : Bool := allTo x.parts.length (fun i => allTo i (fun k => !meetB (gq x.parts i).want (gq x.parts k).want))

theorem foeHit_symm (f : Foe) (x y : ByteArray) : foeHit f x y = foeHit f y x := by unfold foeHit; rw [Bool.or_comm]
theorem foesB_symm (fs : List Foe) (x y : ByteArray) : foesB fs x y = foesB fs y x := by
  unfold foesB; congr 1; funext i; exact foeHit_symm _ _ _

theorem foesB_irrefl {fs : List Foe} (h : foesOkB fs = true) (x : ByteArray) : foesB fs x x = false := by
  cases e : foesB fs x x with
  | false => rfl
  | true =>
    obtain ⟨i, hi, hh⟩ := anyTo_iff.1 e
    unfold foesOkB at h
    simp only [Bool.and_eq_true] at h
    have h2 := allTo_iff.1 h.2 i hi
    unfold foeAtS at h2
    simp only [Bool.and_eq_true] at h2
    have h3 := h2.1.2
    unfold foeHit at hh
    rw [Bool.or_self, Bool.and_eq_true] at hh
    have h4 : eqS (gf fs i).a (gf fs i).b = true := by
      have e1 := hh.1
      have e2 := hh.2
      unfold eqS at e1 e2 ⊢
      rw [beq_iff_eq] at e1 e2 ⊢
      rw [e1, e2]
    rw [ltS_of_eqS h4] at h3
    exact absurd h3 (by decide)

theorem pairs_same {fs : List Foe} (h : foesOkB fs = true) (ss : List ByteArray) : pairsB fs ss = allTo ss.length (fun i => !clashB fs (gs ss i) ss) := by
  rw [Bool.eq_iff_iff]
  unfold pairsB clashB
  constructor
  · intro hp
    rw [allTo_iff] at hp ⊢
    intro i hi
    have hi' := hp i hi
    rw [Bool.not_eq_true', ← Bool.not_eq_true]
    intro ha
    obtain ⟨j, hj, hf⟩ := anyTo_iff.1 ha
    by_cases c1 : i < j
    · have := allTo_iff.1 hi' (j - (i + 1)) (by omega)
      rw [show i + 1 + (j - (i + 1)) = j by omega, hf] at this
      exact absurd this (by decide)
    · by_cases c2 : i = j
      · subst c2
        rw [foesB_irrefl h] at hf
        exact absurd hf (by decide)
      · have := allTo_iff.1 (hp j hj) (i - (j + 1)) (by omega)
        rw [show j + 1 + (i - (j + 1)) = i by omega, foesB_symm, hf] at this
        exact absurd this (by decide)
  · intro hp
    rw [allTo_iff] at hp ⊢
    intro i hi
    rw [allTo_iff]
    intro j hj
    have hi' := hp i hi
    cases e : foesB fs (gs ss i) (gs ss (i + 1 + j)) with
    | false => rfl
    | true =>
      have : anyTo ss.length (fun k => foesB fs (gs ss i) (gs ss k)) = true := anyTo_iff.2 ⟨i + 1 + j, by omega, e⟩
      rw [this] at hi'
      exact absurd hi' (by decide)

theorem levels_same (s : Spot) : levelsB s = (inB s.cap 0 1000 && inB s.least 0 s.most && decide (s.most ≤ s.cap)) := by
  unfold levelsB inB; simp only [Bool.and_assoc]

theorem spot_same {fs : List Foe} (h : foesOkB fs = true) (s : Spot) : spotAtI' fs s = spotOkB fs s := by
  unfold spotAtI' spotOkB
  rw [levels_same, pairs_same h]
  simp only [Bool.and_assoc]

theorem spots_same {x : Book} (h : foesOkB x.foes = true) : (allTo x.spots.length (fun k => spotAtI' x.foes (gp x.spots k)) && ascSB x.spots) = allTo x.spots.length (spotAtB x) := by
  rw [Bool.eq_iff_iff, Bool.and_eq_true]
  unfold ascSB spotAtB
  simp only [allTo_iff, Bool.and_eq_true, spot_same h]
  constructor
  · rintro ⟨h1, h2⟩ i hi
    exact ⟨h1 i hi, h2 i hi⟩
  · intro h1
    exact ⟨fun i hi => (h1 i hi).1, fun i hi => (h1 i hi).2⟩

theorem parts_same (x : Book) : ((decide ((x.parts.length : Int) ≤ 6) && allTo x.parts.length (fun k => partAtI x (gq x.parts k)) && ascPB x.parts) && apartB x && placesB x) = partsOkB x := by
  rw [Bool.eq_iff_iff]
  unfold partsOkB partAtB partOkB partAtI apartB placesB placesAt ascPB
  simp only [allTo_iff, Bool.and_eq_true]
  constructor
  · rintro ⟨⟨⟨⟨h1, h2⟩, h3⟩, h4⟩, h5⟩
    exact ⟨h1, fun i hi => ⟨⟨⟨⟨⟨(h2 i hi).1.2, (h2 i hi).1.1⟩, (h2 i hi).2⟩, h5 i hi⟩, h3 i hi⟩, h4 i hi⟩⟩
  · rintro ⟨h1, h2⟩
    exact ⟨⟨⟨⟨h1, fun i hi => ⟨⟨(h2 i hi).1.1.1.1.2, (h2 i hi).1.1.1.1.1⟩, (h2 i hi).1.1.1.2⟩⟩, fun i hi => (h2 i hi).1.2⟩, fun i hi => (h2 i hi).2⟩, fun i hi => (h2 i hi).1.1.2⟩

/-- The program's six looks. -/
def bookI (x : Book) : Bool :=
  foesOkB x.foes && (decide ((x.spots.length : Int) ≤ 8) && allTo x.spots.length (fun k => spotAtI' x.foes (gp x.spots k)) && ascSB x.spots) && (namesB x.valves 12 && inB x.seen 0 1000000) && (decide ((x.parts.length : Int) ≤ 6) && allTo x.parts.length (fun k => partAtI x (gq x.parts k)) && ascPB x.parts) && apartB x && placesB x

theorem book_same (x : Book) : bookI x = bookB x := by
  unfold bookI bookB
  cases h : foesOkB x.foes with
  | false => rfl
  | true =>
    rw [← spots_same h, ← parts_same]
    cases decide ((x.spots.length : Int) ≤ 8) <;> cases namesB x.valves 12 <;> cases inB x.seen 0 1000000 <;> cases allTo x.spots.length (fun k => spotAtI' x.foes (gp x.spots k)) <;> cases ascSB x.spots <;> simp

end Go.Proofs.YtfmhkicncgccjaaGreat

/- The map's answers are what the parts ahead hold. -/
namespace Go.Proofs.YtfmhkicncgccjaaGreat
open Go.RowKit Go.Sort
set_option linter.unusedSimpArgs false
set_option linter.unusedVariables false

theorem toList_is (s : ByteArray) : s.toList = s.data.toList := ByteArray.toList_eq s
theorem eqS_iff {s t : ByteArray} : eqS s t = true ↔ s = t := by
  unfold eqS
  rw [beq_iff_eq, toList_is, toList_is]
  exact ⟨fun h => Go.WideShapes.bytes_inj h, fun h => by rw [h]⟩

theorem hasB_iff {ss : List ByteArray} {s : ByteArray} : hasB ss s = true ↔ ∃ i, i < ss.length ∧ gs ss i = s := by
  unfold hasB
  rw [anyTo_iff]
  simp only [eqS_iff]
theorem shareB_iff {xs ys : List ByteArray} : shareB xs ys = true ↔ ∃ i, i < xs.length ∧ hasB ys (gs xs i) = true := by
  unfold shareB; rw [anyTo_iff]

theorem bumps_pos {f : Int → ByteArray → Nat} {way : Int} {ss : List ByteArray} : ∀ (k : Nat) (y : Int) (m : ByteArray), 0 < bumps f way ss k y m ↔ 0 < f y m ∨ (y = way ∧ ∃ i, i < k ∧ gs ss i = m)
  | 0, y, m => by simp [bumps]
  | k + 1, y, m => by
    have ih := bumps_pos (f := f) (way := way) (ss := ss) k y m
    unfold bumps bump
    constructor
    · intro h
      by_cases e : y = way ∧ m = gs ss k
      · exact Or.inr ⟨e.1, k, by omega, e.2.symm⟩
      · rw [if_neg e] at h
        rcases ih.1 h with h | ⟨h1, i, h2, h3⟩
        · exact Or.inl h
        · exact Or.inr ⟨h1, i, by omega, h3⟩
    · intro h
      by_cases e : y = way ∧ m = gs ss k
      · rw [if_pos e]; omega
      · rw [if_neg e]
        refine ih.2 ?_
        rcases h with h | ⟨h1, i, h2, h3⟩
        · exact Or.inl h
        · refine Or.inr ⟨h1, i, ?_, h3⟩
          have : i ≠ k := fun e1 => e ⟨h1, by rw [← h3, e1]⟩
          omega

theorem countsTo_succ (x : Book) (k : Nat) : countsTo x (k + 1) = bumps (bumps (bumps (countsTo x k) 0 (usesN (gq x.parts k).want) (gq x.parts k).want.uses.length) 1 (gq x.parts k).want.opens (gq x.parts k).want.opens.length) 2 (gq x.parts k).want.shuts (gq x.parts k).want.shuts.length := rfl

theorem counts_pos (x : Book) (m : ByteArray) : ∀ k, (0 < countsTo x k 0 m ↔ ∃ j, j < k ∧ hasB (usesN (gq x.parts j).want) m = true) ∧ (0 < countsTo x k 1 m ↔ ∃ j, j < k ∧ hasB (gq x.parts j).want.opens m = true) ∧ (0 < countsTo x k 2 m ↔ ∃ j, j < k ∧ hasB (gq x.parts j).want.shuts m = true)
  | 0 => by simp [countsTo]
  | k + 1 => by
    obtain ⟨i0, i1, i2⟩ := counts_pos x m k
    have st : ∀ {q : Nat → Prop}, (∃ j, j < k + 1 ∧ q j) ↔ (∃ j, j < k ∧ q j) ∨ q k := fun {q} =>
      ⟨fun ⟨j, hj, h⟩ => if e : j = k then Or.inr (e ▸ h) else Or.inl ⟨j, by omega, h⟩, fun h => h.elim (fun ⟨j, hj, h⟩ => ⟨j, by omega, h⟩) (fun h => ⟨k, by omega, h⟩)⟩
    refine ⟨?_, ?_, ?_⟩
    · rw [st, ← i0, hasB_iff, usesN_len]; rw [countsTo_succ, bumps_pos, bumps_pos, bumps_pos]; simp
    · rw [st, ← i1, hasB_iff]; rw [countsTo_succ, bumps_pos, bumps_pos, bumps_pos]; simp
    · rw [st, ← i2, hasB_iff]; rw [countsTo_succ, bumps_pos, bumps_pos, bumps_pos]; simp

theorem apart_same (x : Book) : allTo x.parts.length (apartAt x) = apartB x := by
  unfold apartB
  congr 1
  funext k
  rw [Bool.eq_iff_iff, allTo_iff]
  unfold apartAt
  rw [Bool.not_eq_true', ← Bool.not_eq_true, Bool.or_eq_true]
  constructor
  · intro h j hj
    rw [Bool.not_eq_true', ← Bool.not_eq_true]
    intro hm
    apply h
    unfold meetB crossB at hm
    simp only [Bool.or_eq_true, shareB_iff] at hm
    unfold usedB crossI
    simp only [Bool.or_eq_true, anyTo_iff, decide_eq_true_eq]
    rcases hm with ⟨i, hi, h1⟩ | ((⟨i, hi, h1⟩ | ⟨i, hi, h1⟩) | ⟨i, hi, h1⟩)
    · rw [usesN_len] at hi
      refine Or.inl ⟨i, hi, (counts_pos x _ k).1.2 ⟨j, hj, ?_⟩⟩
      have e : gs (usesN (gq x.parts k).want) i = (gu (gq x.parts k).want.uses i).name := by unfold gs; rw [List.getD_eq_getElem?_getD, usesN_at hi]; rfl
      rw [← e]; exact h1
    · exact Or.inr (Or.inl ⟨i, hi, Or.inl ((counts_pos x _ k).2.1.2 ⟨j, hj, h1⟩)⟩)
    · exact Or.inr (Or.inl ⟨i, hi, Or.inr ((counts_pos x _ k).2.2.2 ⟨j, hj, h1⟩)⟩)
    · exact Or.inr (Or.inr ⟨i, hi, (counts_pos x _ k).2.1.2 ⟨j, hj, h1⟩⟩)
  · intro h hm
    unfold usedB crossI at hm
    simp only [Bool.or_eq_true, anyTo_iff, decide_eq_true_eq] at hm
    have key : ∀ j, j < k → ¬ (shareB (usesN (gq x.parts k).want) (usesN (gq x.parts j).want) = true ∨ ((shareB (gq x.parts k).want.opens (gq x.parts j).want.opens = true ∨ shareB (gq x.parts k).want.opens (gq x.parts j).want.shuts = true) ∨ shareB (gq x.parts k).want.shuts (gq x.parts j).want.opens = true)) := by
      intro j hj hc
      have := h j hj
      rw [Bool.not_eq_true', ← Bool.not_eq_true] at this
      apply this
      unfold meetB crossB
      simp only [Bool.or_eq_true]
      exact hc
    rcases hm with ⟨i, hi, h1⟩ | (⟨i, hi, h1 | h1⟩ | ⟨i, hi, h1⟩)
    · obtain ⟨j, hj, h2⟩ := (counts_pos x _ k).1.1 h1
      have e : gs (usesN (gq x.parts k).want) i = (gu (gq x.parts k).want.uses i).name := by unfold gs; rw [List.getD_eq_getElem?_getD, usesN_at hi]; rfl
      exact key j hj (Or.inl (shareB_iff.2 ⟨i, by rw [usesN_len]; exact hi, by rw [e]; exact h2⟩))
    · obtain ⟨j, hj, h2⟩ := (counts_pos x _ k).2.1.1 h1
      exact key j hj (Or.inr (Or.inl (Or.inl (shareB_iff.2 ⟨i, hi, h2⟩))))
    · obtain ⟨j, hj, h2⟩ := (counts_pos x _ k).2.2.1 h1
      exact key j hj (Or.inr (Or.inl (Or.inr (shareB_iff.2 ⟨i, hi, h2⟩))))
    · obtain ⟨j, hj, h2⟩ := (counts_pos x _ k).2.1.1 h1
      exact key j hj (Or.inr (Or.inr (shareB_iff.2 ⟨i, hi, h2⟩)))

end Go.Proofs.YtfmhkicncgccjaaGreat

/- What the program's ClaimBookOk answers: six looks in order. -/
namespace Go.Proofs.YtfmhkicncgccjaaGreat
open Go.RowKit Go.Sort
set_option linter.unusedSimpArgs false
set_option linter.unusedVariables false
set_option maxRecDepth 100000

/-- The program's look k at a book. -/
def lookB (x : Book) : Nat → Bool
  | 0 => foesOkB x.foes
  | 1 => decide ((x.spots.length : Int) ≤ 8) && allTo x.spots.length (fun k => spotAtI' x.foes (gp x.spots k)) && ascSB x.spots
  | 2 => namesB x.valves 12 && inB x.seen 0 1000000
  | 3 => decide ((x.parts.length : Int) ≤ 6) && allTo x.parts.length (fun k => partAtI x (gq x.parts k)) && ascPB x.parts
  | 4 => apartB x
  | _ => placesB x

theorem looks_same (x : Book) : allTo 6 (lookB x) = bookB x := by
  rw [← book_same]
  simp only [allTo, lookB, bookI, Bool.true_and]

theorem looks_parts {x : Book} {k : Nat} (hk : 4 ≤ k) (h : allTo k (lookB x) = true) : x.parts.length ≤ 6 ∧ (∀ k, k < x.parts.length → wantB (gq x.parts k).want = true ∧ knowsB x (gq x.parts k).want = true) := by
  have h3 := allTo_iff.1 h 3 (by omega)
  simp only [lookB, Bool.and_eq_true, decide_eq_true_eq] at h3
  refine ⟨by omega, fun i hi => ?_⟩
  have := allTo_iff.1 h3.1.2 i hi
  simp only [partAtI, Bool.and_eq_true] at this
  exact ⟨this.1.2, this.2⟩

theorem wantB_lens {y : Want} (h : wantB y = true) : y.uses.length ≤ 20 ∧ y.opens.length ≤ 20 ∧ y.shuts.length ≤ 20 := by
  unfold wantB at h
  simp only [Bool.and_eq_true] at h
  have h4 := namesB_len h.1.1.1.1.1.1.2
  have h5 := namesB_len h.1.1.1.1.1.2
  have h3 := h.1.1.1.1.1.1.1.2
  unfold usesS at h3
  simp only [Bool.and_eq_true, decide_eq_true_eq] at h3
  exact ⟨by omega, by omega, by omega⟩

theorem looks_least {x : Book} {k : Nat} (hk : 2 ≤ k) (h : allTo k (lookB x) = true) : LeastFit x := by
  have h0 := allTo_iff.1 h 0 (by omega)
  have h1 := allTo_iff.1 h 1 (by omega)
  simp only [lookB] at h0 h1
  apply leastFit_of
  rw [← spots_same h0]
  rw [Bool.and_assoc, Bool.and_eq_true] at h1
  exact h1.2

set_option maxHeartbeats 4000000 in
theorem implBookOk_any (x : Book) (af ap av aq : Option Addr) (cf cp cv cq : Nat) (w : World) (hx : BookIn w x af ap av aq) (fx : BookFit x) :
    Calls Tryz.prog 21 #[bookV x af ap av aq cf cp cv cq] w fun e w' => e = .returned (.bool (bookB x)) ∧ Below w.heap.size w w' := by
  rw [← looks_same]
  unfold bookV
  have b0 : Below w.heap.size w ((w.alloc (.cells #[.slice af x.foes.length cf, .slice ap x.spots.length cp, .slice av x.valves.length cv, .slice aq x.parts.length cq, .int .i64 x.seen] 28)).alloc (.cells #[.func (.func 52) #[] #[], .func (.func 53) #[] #[], .func (.func 54) #[] #[], .func (.func 55) #[] #[], .func (.func 56) #[] #[], .func (.func 57) #[] #[]] 51)) := ((Below.refl _ _).alloc (Nat.le_refl _) _).alloc (by simp) _
  have i0 : Row ((w.alloc (.cells #[.slice af x.foes.length cf, .slice ap x.spots.length cp, .slice av x.valves.length cv, .slice aq x.parts.length cq, .int .i64 x.seen] 28)).alloc (.cells #[.func (.func 52) #[] #[], .func (.func 53) #[] #[], .func (.func 54) #[] #[], .func (.func 55) #[] #[], .func (.func 56) #[] #[], .func (.func 57) #[] #[]] 51)) w.heap.size 28 (bookL x af ap av aq cf cp cv cq) := (Row.new w 28 (bookL x af ap av aq cf cp cv cq)).alloc _
  have o0 : Row ((w.alloc (.cells #[.slice af x.foes.length cf, .slice ap x.spots.length cp, .slice av x.valves.length cv, .slice aq x.parts.length cq, .int .i64 x.seen] 28)).alloc (.cells #[.func (.func 52) #[] #[], .func (.func 53) #[] #[], .func (.func 54) #[] #[], .func (.func 55) #[] #[], .func (.func 56) #[] #[], .func (.func 57) #[] #[]] 51)) (w.heap.size + 1) 51 [.func (.func 52) #[] #[], .func (.func 53) #[] #[], .func (.func 54) #[] #[], .func (.func 55) #[] #[], .func (.func 56) #[] #[], .func (.func 57) #[] #[]] := by
    have := Row.new (w.alloc (.cells #[.slice af x.foes.length cf, .slice ap x.spots.length cp, .slice av x.valves.length cv, .slice aq x.parts.length cq, .int .i64 x.seen] 28)) 51 [.func (.func 52) #[] #[], .func (.func 53) #[] #[], .func (.func 54) #[] #[], .func (.func 55) #[] #[], .func (.func 56) #[] #[], .func (.func 57) #[] #[]]
    simpa using this
  go_enter Tryz.func21, Tryz.ntmps21
  go_wp2
  go_loopw [5, 9] (fun _ i wr => ∃ (k : Nat), k ≤ 6 ∧ i = .int .i64 k ∧ allTo k (lookB x) = true ∧ Below ((w.alloc (.cells #[.slice af x.foes.length cf, .slice ap x.spots.length cp, .slice av x.valves.length cv, .slice aq x.parts.length cq, .int .i64 x.seen] 28)).alloc (.cells #[.func (.func 52) #[] #[], .func (.func 53) #[] #[], .func (.func 54) #[] #[], .func (.func 55) #[] #[], .func (.func 56) #[] #[], .func (.func 57) #[] #[]] 51)).heap.size ((w.alloc (.cells #[.slice af x.foes.length cf, .slice ap x.spots.length cp, .slice av x.valves.length cv, .slice aq x.parts.length cq, .int .i64 x.seen] 28)).alloc (.cells #[.func (.func 52) #[] #[], .func (.func 53) #[] #[], .func (.func 54) #[] #[], .func (.func 55) #[] #[], .func (.func 56) #[] #[], .func (.func 57) #[] #[]] 51)) wr) (fun _ i _ => 6 - (intOf i).toNat)
  case atStart => exact ⟨0, Nat.zero_le _, rfl, rfl, Below.refl _ _⟩
  case round wr =>
    obtain ⟨k, hk, rfl, hall, hbel⟩ := hrel
    have hbw := b0.trans (hbel.mono b0.size)
    have i1 := i0.later hbel
    have o1 := o0.later hbel
    have hxi := hx.later hbw
    clear i0 o0
    have y0 := i1.cell 0 rfl
    have y1 := i1.cell 1 rfl
    have y2 := i1.cell 2 rfl
    have y3 := i1.cell 3 rfl
    have y4 := i1.cell 4 rfl
    have hs0 := o1.lt
    match k, hk with
    | 0, hk =>
      have z := o1.cell 0 rfl
      go_wp2_with fail
      refine (foesOk_any x af ap av aq cf cp cv cq _ hxi.foes fx.foes).mono ?_
      rintro e w1 ⟨rfl, hb1⟩
      have hbel1 := hbel.trans (hb1.mono hbel.size)
      cases hq : lookB x 0 with
      | false =>
        have hq' := hq
        simp only [lookB] at hq'
        rw [hq']
        go_wp2
        go_ret
        exact ⟨ret_bool (allTo_false 0 (by omega) hq).symm, b0.trans (hbel1.mono b0.size)⟩
      | true =>
        have hq' := hq
        simp only [lookB] at hq'
        rw [hq']
        go_wp2
        go_roundw
        case rel => exact ⟨1, by omega, rfl, allTo_succ hall hq, hbel1⟩
        case measure => simp [intOf]
    | 1, hk =>
      have z := o1.cell 1 rfl
      go_wp2_with fail
      refine (spotsOk_any x af ap av aq cf cp cv cq _ hxi.foes fx.foes.len hxi.spots fx.spots).mono ?_
      rintro e w1 ⟨rfl, hb1⟩
      have hbel1 := hbel.trans (hb1.mono hbel.size)
      cases hq : lookB x 1 with
      | false =>
        have hq' := hq
        simp only [lookB] at hq'
        rw [hq']
        go_wp2
        go_ret
        exact ⟨ret_bool (allTo_false 1 (by omega) hq).symm, b0.trans (hbel1.mono b0.size)⟩
      | true =>
        have hq' := hq
        simp only [lookB] at hq'
        rw [hq']
        go_wp2
        go_roundw
        case rel => exact ⟨2, by omega, rfl, allTo_succ hall hq, hbel1⟩
        case measure => simp [intOf]
    | 2, hk =>
      have z := o1.cell 2 rfl
      go_wp2_with fail
      refine (valvesOk_any x af ap av aq cf cp cv cq _ hxi.valves fx.valves).mono ?_
      rintro e w1 ⟨rfl, hb1⟩
      have hbel1 := hbel.trans (hb1.mono hbel.size)
      cases hq : lookB x 2 with
      | false =>
        have hq' := hq
        simp only [lookB] at hq'
        rw [hq']
        go_wp2
        go_ret
        exact ⟨ret_bool (allTo_false 2 (by omega) hq).symm, b0.trans (hbel1.mono b0.size)⟩
      | true =>
        have hq' := hq
        simp only [lookB] at hq'
        rw [hq']
        go_wp2
        go_roundw
        case rel => exact ⟨3, by omega, rfl, allTo_succ hall hq, hbel1⟩
        case measure => simp [intOf]
    | 3, hk =>
      have z := o1.cell 3 rfl
      go_wp2_with fail
      refine (partsOk_any x af ap av aq cf cp cv cq _ hxi fx).mono ?_
      rintro e w1 ⟨rfl, hb1⟩
      have hbel1 := hbel.trans (hb1.mono hbel.size)
      cases hq : lookB x 3 with
      | false =>
        have hq' := hq
        simp only [lookB] at hq'
        rw [hq']
        go_wp2
        go_ret
        exact ⟨ret_bool (allTo_false 3 (by omega) hq).symm, b0.trans (hbel1.mono b0.size)⟩
      | true =>
        have hq' := hq
        simp only [lookB] at hq'
        rw [hq']
        go_wp2
        go_roundw
        case rel => exact ⟨4, by omega, rfl, allTo_succ hall hq, hbel1⟩
        case measure => simp [intOf]
    | 4, hk =>
      have z := o1.cell 4 rfl
      go_wp2_with fail
      refine (partsApart_any x af ap av aq cf cp cv cq _ hxi fx (looks_parts (by omega) hall).1 (fun k hk => wantB_lens ((looks_parts (by omega) hall).2 k hk).1)).mono ?_
      rintro e w1 ⟨rfl, hb1⟩
      have hbel1 := hbel.trans (hb1.mono hbel.size)
      rw [apart_same]
      cases hq : lookB x 4 with
      | false =>
        have hq' := hq
        simp only [lookB] at hq'
        rw [hq']
        go_wp2
        go_ret
        exact ⟨ret_bool (allTo_false 4 (by omega) hq).symm, b0.trans (hbel1.mono b0.size)⟩
      | true =>
        have hq' := hq
        simp only [lookB] at hq'
        rw [hq']
        go_wp2
        go_roundw
        case rel => exact ⟨5, by omega, rfl, allTo_succ hall hq, hbel1⟩
        case measure => simp [intOf]
    | 5, hk =>
      have z := o1.cell 5 rfl
      go_wp2_with fail
      refine (placesOk_any x af ap av aq cf cp cv cq _ hxi fx (looks_least (by omega) hall) (looks_parts (by omega) hall).2).mono ?_
      rintro e w1 ⟨rfl, hb1⟩
      have hbel1 := hbel.trans (hb1.mono hbel.size)
      cases hq : lookB x 5 with
      | false =>
        have hq' := hq
        simp only [lookB] at hq'
        rw [hq']
        go_wp2
        go_ret
        exact ⟨ret_bool (allTo_false 5 (by omega) hq).symm, b0.trans (hbel1.mono b0.size)⟩
      | true =>
        have hq' := hq
        simp only [lookB] at hq'
        rw [hq']
        go_wp2
        go_roundw
        case rel => exact ⟨6, by omega, rfl, allTo_succ hall hq, hbel1⟩
        case measure => simp [intOf]
    | 6, hk =>
      go_wp2
      go_ret
      exact ⟨ret_bool hall.symm, hbw⟩
    | k + 7, hk => omega

end Go.Proofs.YtfmhkicncgccjaaGreat

