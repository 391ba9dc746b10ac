/- The map of what is used: its keys, what a look into it gives. -/
import Derived.Test.YtfmhkicncgccjaaGreatBkI8
import Derived.Maps.Own
import Derived.Maps.Views
import Derived.WideKeyEntry
import Derived.DeepKeys4
namespace Go.Proofs.YtfmhkicncgccjaaGreat
open Go.RowKit Go.Sort Go.WideMaps Go.Maps
set_option linter.unusedSimpArgs false
set_option linter.unusedVariables false
set_option maxRecDepth 100000

/-- A used thing, as a key. -/
def usedV (way : Int) (name : ByteArray) : Value := .agg #[.int .i64 way, .string name]

theorem rowU : (157 : TypeId) < Tryz.prog.types.size := of_decide_eq_true (by kernel_rfl)
theorem wideU : (match Tryz.prog.underlying 157 with | some (.array _ _) | some (.struct _) => true | _ => false) = true := by kernel_rfl
theorem laidU : laidOutB Tryz.prog = true := by kernel_rfl
theorem typeU : Tryz.prog.keyTypeAt 2 157 = true := by kernel_rfl
theorem lawU : KeyLaw Tryz.prog 157 := deep_law_laid laidU (m := 2) (by omega) rowU typeU wideU
theorem keyedU : Keyed Tryz.prog 157 := Keyed.of_law lawU
theorem zeroU (w : World) : (zeroValue 3).run Tryz.prog w = .ok (.int .i64 0) w := by kernel_rfl
theorem mapU : Tryz.prog.underlying 129 = some (.map 157 3) := by kernel_rfl
theorem intU : Tryz.prog.underlying 3 = some (.int .i64) := by kernel_rfl

theorem keyU (way : Int) (hw : (Lit.int .i64 way).wf = true) (name : ByteArray) (hn : name.size ≤ maxLen) : ∃ kl, keyOf Tryz.prog 157 (usedV way name) = some kl := by
  have e : keyOf Tryz.prog 157 (usedV way name) = (((if IntKind.i64 = IntKind.i64 ∧ (Lit.int .i64 way).wf = true then some [Lit.int .i64 way] else none).bind (fun a => (if name.size ≤ maxLen then some [Lit.string name.data.toList] else none).bind (fun b => some [a, b]))).map List.flatten).map (fun ls => .string (keyBytes ls)) := by kernel_rfl
  rw [e, if_pos ⟨rfl, hw⟩, if_pos hn]
  exact ⟨_, rfl⟩

/-- The map at block b holds, for each used thing, how often it is used; at most n keys. -/
def UsedIn (w : World) (b n : Nat) (f : Int → ByteArray → Nat) : Prop :=
  ∃ D : DataW Unit, w.ownsMap Tryz.prog 157 (plainElem Tryz.prog 3) b n D ∧ IsMap D ∧
    ∀ (way : Int) (name : ByteArray) (kl : Lit), keyOf Tryz.prog 157 (usedV way name) = some kl → D.atKey kl (.lit (.int .i64 0)) = .lit (.int .i64 (f way name))

theorem UsedIn.made (w : World) : UsedIn (w.alloc (.map #[] 0)) w.heap.size 0 (fun _ _ => 0) :=
  ⟨.map [], World.ownsMap_made w _ _ _, isMap_empty, fun _ _ _ _ => rfl⟩

theorem UsedIn.look {w : World} {b n : Nat} {f : Int → ByteArray → Nat} (h : UsedIn w b n f) (way : Int) (hw : (Lit.int .i64 way).wf = true) (name : ByteArray) (hn : name.size ≤ maxLen) :
    (Instr.lookup 129 (.map (some b)) (usedV way name) false).run Tryz.prog w = .ok (.int .i64 (f way name)) w := by
  obtain ⟨D, hD, hm, hf⟩ := h
  obtain ⟨kl, hk⟩ := keyU way hw name hn
  obtain ⟨c, h1, h2, _⟩ := hD.lookup_int keyedU mapU intU (zeroU w) hk
  rw [hf way name kl hk] at h2
  injection h2 with h2
  injection h2 with _ h2
  rw [h1, h2]

theorem UsedIn.kept {w w' : World} {b n : Nat} {f : Int → ByteArray → Nat} (h : UsedIn w b n f) (hb : w'.heap[b]? = w.heap[b]?) : UsedIn w' b n f := by
  obtain ⟨D, ⟨es, clock, h1, h2, h3, h4⟩, hm, hf⟩ := h
  exact ⟨D, ⟨es, clock, hb.trans h1, h2, h3, h4⟩, hm, hf⟩

end Go.Proofs.YtfmhkicncgccjaaGreat
