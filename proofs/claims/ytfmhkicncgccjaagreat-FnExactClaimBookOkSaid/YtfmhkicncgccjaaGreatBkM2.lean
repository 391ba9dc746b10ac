/- One more of a used thing: the entry is made, then written. -/
import Derived.Test.YtfmhkicncgccjaaGreatBkM1
namespace Go.Proofs.YtfmhkicncgccjaaGreat
open Go.RowKit Go.Sort Go.WideMaps Go.Maps Go.ChangeMaps Go.WideElems
set_option linter.unusedSimpArgs false
set_option linter.unusedVariables false
set_option maxRecDepth 100000

/-- Asking for the entry of a key writes what lies there, or zero: it looks like an update with what a look gives. -/
theorem entry_is_update {H : Type} {P : Program} {w : World} {t k e : TypeId} {R : Value → Option (DataW H × List MemPlace)} {b : Nat} {es : Array MapEntry} {clock : Nat}
    (K : KeyLaw P k) (ht : P.underlying t = some (.map k e)) {z : Value} (hz : ∀ u : World, (zeroValue e).run P u = .ok z u) (hb : w.heap[b]? = some (.map es clock)) (F : Go.WideElems.Fit P k R es clock)
    {key : Value} {kl : Lit} (hkey : keyOf P k key = some kl) :
    ∃ (v0 : Value) (st : Value) (w1 : World), (Instr.mapEntry t (.map (some b)) key).run P w = .ok (.tuple #[v0, st]) w1 ∧ (Instr.mapUpdate t (.map (some b)) key v0).run P w = .ok () w1 ∧
      (Instr.lookup t (.map (some b)) key false).run P w = .ok v0 w := by
  rcases K.find w hkey es.toList F.keys with ⟨h1, h2⟩ | ⟨j, e0, h1, h2, h3⟩
  · refine ⟨z, goInt clock, setBlock w b (.map (es.push ⟨key, z, clock⟩) (clock + 1)), ?_, ?_, ?_⟩
    · simp [Instr.mapEntry, run_underlying ht, MapKept.run_getObj_map hb, K.check w false hkey, h1, hz, MapKept.run_setObj_map _ hb, Result.andThen, setBlock]
    · simp [Instr.mapUpdate, run_underlying ht, MapKept.run_getObj_map hb, K.check w false hkey, h1, MapKept.run_setObj_map _ hb, Result.andThen, setBlock]
    · simp [Instr.lookup, run_underlying ht, MapKept.run_getObj_map hb, K.check w _ hkey, h1, hz, Result.andThen]
  · have hj : es[j]? = some e0 := by simpa using h2
    refine ⟨e0.val, goInt e0.born, setBlock w b (.map (es.modify j (fun e => { e with key := key })) clock), ?_, ?_, ?_⟩
    · simp [Instr.mapEntry, run_underlying ht, MapKept.run_getObj_map hb, K.check w false hkey, h1, hj, h3, K.stays w hkey, MapKept.run_setObj_map _ hb, Result.andThen, setBlock]
    · have hsame : es.modify j (fun e' => { e' with key := key, val := e0.val }) = es.modify j (fun e => { e with key := key }) := by
        apply Array.ext'
        rw [Array.toList_modify, Array.toList_modify, modify_eq_set _ _ _ _ h2, modify_eq_set _ _ _ _ h2]
      simp [Instr.mapUpdate, run_underlying ht, MapKept.run_getObj_map hb, K.check w false hkey, h1, hj, h3, K.stays w hkey, hsame, MapKept.run_setObj_map _ hb, Result.andThen, setBlock]
    · simp [Instr.lookup, run_underlying ht, MapKept.run_getObj_map hb, K.check w _ hkey, h1, Result.andThen]

/-- One more of this thing. -/
def bump (f : Int → ByteArray → Nat) (way : Int) (name : ByteArray) : Int → ByteArray → Nat := fun y m => if y = way ∧ m = name then f y m + 1 else f y m

theorem UsedIn.put {w : World} {b n : Nat} {f : Int → ByteArray → Nat} (h : UsedIn w b n f) (hn : n < maxLen) (way : Int) (hw : (Lit.int .i64 way).wf = true) (name : ByteArray) (hs : name.size ≤ maxLen) (c : Nat) (hc : (Lit.int .i64 (c : Int)).wf = true) :
    ∃ w2, (Instr.mapUpdate 129 (.map (some b)) (usedV way name) (.int .i64 c)).run Tryz.prog w = .ok () w2 ∧ UsedIn w2 b (n + 1) (fun y m => if y = way ∧ m = name then c else f y m) ∧ w.grownBy w2 (some b) := by
  obtain ⟨D, hD, hm, hf⟩ := h
  obtain ⟨kl, hk⟩ := keyU way hw name hs
  obtain ⟨w2, h1, h2, h3⟩ := hD.update keyedU mapU hn hk (plainElem_int intU hc)
  refine ⟨w2, h1, ⟨_, h2, hm.put _ _, fun y m kl' hk' => ?_⟩, h3⟩
  show _ = DataW.lit (Lit.int .i64 ((if y = way ∧ m = name then c else f y m : Nat) : Int))
  by_cases e : y = way ∧ m = name
  · rw [if_pos e]
    obtain ⟨rfl, rfl⟩ := e
    rw [hk] at hk'
    injection hk' with hk'
    subst hk'
    exact atKey_put_same hm (keyedU.key hk) _ _
  · rw [if_neg e]
    have hne : kl' ≠ kl := fun e1 => by
      subst e1
      have := keyedU.inj hk' hk
      unfold usedV at this
      injection this with this
      simp at this
      exact e this
    rw [atKey_put_other hne]
    exact hf y m kl' hk'

theorem UsedIn.congr {w : World} {b n : Nat} {f g : Int → ByteArray → Nat} (h : UsedIn w b n f) (e : ∀ y m, f y m = g y m) : UsedIn w b n g := by
  have : f = g := funext fun y => funext fun m => e y m
  rw [← this]; exact h

theorem wf_of_small {c : Int} (h0 : 0 ≤ c) (h : c ≤ 1000000) : (Lit.int .i64 c).wf = true := by
  have e1 : IntKind.i64.min = -9223372036854775808 := rfl
  have e2 : IntKind.i64.max = 9223372036854775807 := rfl
  simp [Lit.wf, e1, e2]; omega

theorem UsedIn.bump {w : World} {b n : Nat} {f : Int → ByteArray → Nat} (h : UsedIn w b n f) (hn : n < maxLen) (way : Int) (hw : (Lit.int .i64 way).wf = true) (name : ByteArray) (hs : name.size ≤ maxLen) (hc : f way name < 100000) :
    ∃ st w1 w2, (Instr.mapEntry 129 (.map (some b)) (usedV way name)).run Tryz.prog w = .ok (.tuple #[.int .i64 (f way name), st]) w1 ∧
      (Instr.lookup 129 (.map (some b)) (usedV way name) false).run Tryz.prog w = .ok (.int .i64 (f way name)) w ∧
      (Instr.lookup 129 (.map (some b)) (usedV way name) false).run Tryz.prog w1 = .ok (.int .i64 (f way name)) w1 ∧
      (Instr.entryStore 129 (.map (some b)) st (.int .i64 ((f way name : Int) + 1))).run Tryz.prog w1 = .ok () w2 ∧
      UsedIn w2 b (n + 1) (bump f way name) ∧ w.grownBy w2 (some b) := by
  have hl := h.look way hw name hs
  have hk := keyU way hw name hs
  have hu1 := h.put hn way hw name hs (f way name) (wf_of_small (by omega) (by omega))
  have hu2 := h.put hn way hw name hs (f way name + 1) (wf_of_small (by omega) (by omega))
  obtain ⟨kl, hk⟩ := hk
  obtain ⟨D, ⟨es, clock, hb, F, hsz, hD⟩, hm, hf⟩ := h
  obtain ⟨v0, st, w1, e1, e2, e3⟩ := entry_is_update lawU mapU zeroU hb F hk
  rw [hl] at e3
  injection e3 with e3 _
  subst e3
  obtain ⟨w1', g1, g2, g3⟩ := hu1
  rw [e2] at g1
  injection g1 with _ g1
  subst g1
  obtain ⟨v0', st', es1, clock1, k1, _, k3⟩ := entry_then_store lawU mapU zeroU hb F hk
  rw [e1] at k1
  injection k1 with k1 k2
  injection k1 with k1
  simp at k1
  obtain ⟨rfl, rfl⟩ := k1
  obtain ⟨w2, q1, q2, q3⟩ := hu2
  have hw1 : w1.heap[b]? = some (.map es1 clock1) := by rw [k2]; exact heap_setBlock_same hb _
  obtain ⟨es', clock', r1, r2⟩ := k3 w1 (.int .i64 ((f way name + 1 : Nat) : Int)) hw1
  rw [q1] at r2
  injection r2 with _ r2
  refine ⟨_, w1, w2, e1, hl, ?_, ?_, q2.congr (fun y m => ?_), q3⟩
  · have := g2.look way hw name hs
    simpa using this
  · rw [show ((f way name : Int) + 1) = ((f way name + 1 : Nat) : Int) by omega, r1, r2, k2]
    simp [setBlock, Array.setIfInBounds_setIfInBounds]
  · unfold Proofs.YtfmhkicncgccjaaGreat.bump
    by_cases e : y = way ∧ m = name
    · rw [if_pos e, if_pos e, e.1, e.2]
    · rw [if_neg e, if_neg e]

end Go.Proofs.YtfmhkicncgccjaaGreat
