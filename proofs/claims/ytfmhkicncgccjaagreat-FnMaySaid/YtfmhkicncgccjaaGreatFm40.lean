/- Joined: BkI8, BkM1, BkM2, BkM3. -/
import Derived.Test.YtfmhkicncgccjaaGreatFm39
import Derived.Maps.Own
import Derived.Maps.Views
import Derived.WideKeyEntry
import Derived.DeepKeys4
/- What the program's placesOk answers of parts that are known and ok. -/
namespace Go.Proofs.YtfmhkicncgccjaaGreat
open Go.RowKit Go.Sort
set_option linter.unusedSimpArgs false
set_option linter.unusedVariables false

def placesAt (x : Book) (k : Nat) : Bool := allTo (gq x.parts k).want.uses.length (fun i => useOkB (spotAtI x.spots (spotI x.spots (gu (gq x.parts k).want.uses i).name)) (gq x.parts k).want (gu (gq x.parts k).want.uses i))
def placesB (x : Book) : Bool := allTo x.parts.length (placesAt x)

set_option maxRecDepth 100000 in
set_option maxHeartbeats 4000000 in
theorem placesOk_any (x : Book) (af ap av aq : Option Addr) (cf cp cv cq : Nat) (w : World) (hx : BookIn w x af ap av aq) (fx : BookFit x) (hlf : LeastFit x) (hpk : ∀ k, k < x.parts.length → wantB (gq x.parts k).want = true ∧ knowsB x (gq x.parts k).want = true) :
 Calls Tryz.prog 57 #[bookV x af ap av aq cf cp cv cq] w fun e w' => e = .returned (.bool (placesB x)) ∧ Below w.heap.size w w' := by
 have hl := fx.parts.len
 unfold maxLen at hl
 unfold bookV
 go_enter Tryz.func57, Tryz.ntmps57
 go_wp2
 go_loopw [4, 6, 10] (fun _ _ i wr => ∃ (k : Nat), k ≤ x.parts.length ∧ i = .int .i64 k ∧ allTo k (placesAt x) = true ∧ Below (w.alloc (.cells (bookL x af ap av aq cf cp cv cq).toArray 28)).heap.size (w.alloc (.cells (bookL x af ap av aq cf cp cv cq).toArray 28)) wr) (fun _ _ i _ => x.parts.length - (intOf i).toNat)
 case atStart => exact ⟨0, Nat.zero_le _, rfl, rfl, Below.refl _ _⟩
 case round wr =>
  obtain ⟨k, hk, rfl, hall, hbel⟩ := hrel
  have hbw := below_over hbel
  have bk := bookRow hbel
  by_cases hlt : k < x.parts.length
  case neg =>
   have : k = x.parts.length := by omega
   subst this
   go_wp2
   go_ret
   exact ⟨ret_bool hall.symm, hbw⟩
  obtain ⟨b, o, a2, a3, a4, a5, c2, c3, c4, c5, ha, hb, hc0, hc1, hc2, hc3, hc4, hc5, hc6, hst⟩ := (hx.later hbw).parts.at hlt
  have hfp := fx.parts.wants _ (gq_mem hlt)
  obtain ⟨hwb, hkn⟩ := hpk k hlt
  have hul := hfp.usesLen
  unfold maxLen at hul
  subst ha
  have hba : Below wr.heap.size wr (wr.alloc (.cells #[.int .i64 (gq x.parts k).want.number, .int .i64 (gq x.parts k).want.kind, .slice a2 (gq x.parts k).want.stuffs.length c2, .slice a3 (gq x.parts k).want.uses.length c3, .slice a4 (gq x.parts k).want.opens.length c4, .slice a5 (gq x.parts k).want.shuts.length c5, .bool (gq x.parts k).stopped] 61)) := (Below.refl _ _).alloc (Nat.le_refl _) _
  have prow : Row (wr.alloc (.cells #[.int .i64 (gq x.parts k).want.number, .int .i64 (gq x.parts k).want.kind, .slice a2 (gq x.parts k).want.stuffs.length c2, .slice a3 (gq x.parts k).want.uses.length c3, .slice a4 (gq x.parts k).want.opens.length c4, .slice a5 (gq x.parts k).want.shuts.length c5, .bool (gq x.parts k).stopped] 61)) wr.heap.size 61 (partL (gq x.parts k) a2 a3 a4 a5 c2 c3 c4 c5) := Row.new wr _ _
  have hbela := hbel.trans (hba.mono hbel.size)
  go_wp2
  go_loopw [6, 18] (fun _ i wv => ∃ (j : Nat) (w2 : World), w2 = wv ∧ j ≤ (gq x.parts k).want.uses.length ∧ i = .int .i64 j ∧ allTo j (fun i => useOkB (spotAtI x.spots (spotI x.spots (gu (gq x.parts k).want.uses i).name)) (gq x.parts k).want (gu (gq x.parts k).want.uses i)) = true ∧ Below (wr.alloc (.cells #[.int .i64 (gq x.parts k).want.number, .int .i64 (gq x.parts k).want.kind, .slice a2 (gq x.parts k).want.stuffs.length c2, .slice a3 (gq x.parts k).want.uses.length c3, .slice a4 (gq x.parts k).want.opens.length c4, .slice a5 (gq x.parts k).want.shuts.length c5, .bool (gq x.parts k).stopped] 61)).heap.size (wr.alloc (.cells #[.int .i64 (gq x.parts k).want.number, .int .i64 (gq x.parts k).want.kind, .slice a2 (gq x.parts k).want.stuffs.length c2, .slice a3 (gq x.parts k).want.uses.length c3, .slice a4 (gq x.parts k).want.opens.length c4, .slice a5 (gq x.parts k).want.shuts.length c5, .bool (gq x.parts k).stopped] 61)) w2) (fun _ i _ => (gq x.parts k).want.uses.length - (intOf i).toNat)
  case atStart => exact ⟨0, _, rfl, Nat.zero_le _, rfl, rfl, Below.refl _ _⟩
  case round =>
   obtain ⟨j, w2, rfl, hj, rfl, hallj, hb2⟩ := hrel
   have hbel2 := hbela.trans (hb2.mono hbela.size)
   have hbw2 := below_over hbel2
   have hbr2 := hba.trans (hb2.mono hba.size)
   have bk2 := bk.later hbr2
   have prow2 := prow.later hb2
   by_cases hjk : j < (gq x.parts k).want.uses.length
   case neg =>
    have hjj : j = (gq x.parts k).want.uses.length := by omega
    have hgood : placesAt x k = true := by unfold placesAt; rw [← hjj]; exact hallj
    have HG : Hid (placesAt x k = true) := hgood
    clear hgood hjj
    go_wp2
    go_roundw
    case rel => exact ⟨k + 1, by omega, by go_num, allTo_succ hall HG.out, hbel2⟩
    case measure => simp [intOf]; omega
   obtain ⟨b', o', ha', hb', hd0, hd1, hd2⟩ := (hst.later hbr2).uses.at hjk
   obtain ⟨i, hi, hspot⟩ := knowsB_spot hkn hjk
   obtain ⟨bs, os, m, c, has, hbs, he0, he1, he2, he3, he4, hss⟩ := (hx.later hbw2).spots.at hi
   have ham := wantB_amount hwb hjk
   have hls := hlf _ (gp_mem hi)
   have hfs := (fx.spots.names _ (gp_mem hi)).2
   subst ha' has
   have hba3 : Below w2.heap.size w2 (w2.alloc (.cells #[.string (gu (gq x.parts k).want.uses j).name, .int .i64 (gu (gq x.parts k).want.uses j).role, .int .i64 (gu (gq x.parts k).want.uses j).amount] 101)) := (Below.refl _ _).alloc (Nat.le_refl _) _
   have urow := Row.new w2 101 [.string (gu (gq x.parts k).want.uses j).name, .int .i64 (gu (gq x.parts k).want.uses j).role, .int .i64 (gu (gq x.parts k).want.uses j).amount]
   have hbw3 := hbw2.trans (hba3.mono hbw2.size)
   have bk3 := bk2.later hba3
   have prow3 := prow2.later hba3
   have hs3 := hss.later hba3
   generalize hw3 : w2.alloc (.cells #[.string (gu (gq x.parts k).want.uses j).name, .int .i64 (gu (gq x.parts k).want.uses j).role, .int .i64 (gu (gq x.parts k).want.uses j).amount] 101) = w3 at hba3 hbw3 bk3 prow3 hs3
   have urow3 : Row w3 w2.heap.size 101 [.string (gu (gq x.parts k).want.uses j).name, .int .i64 (gu (gq x.parts k).want.uses j).role, .int .i64 (gu (gq x.parts k).want.uses j).amount] := by rw [← hw3]; exact urow
   have HW3 : Hid (w2.alloc (.cells #[.string (gu (gq x.parts k).want.uses j).name, .int .i64 (gu (gq x.parts k).want.uses j).role, .int .i64 (gu (gq x.parts k).want.uses j).amount] 101) = w3) := hw3
   clear hw3 urow
   have r1 := cell_regrown (bk3.cell 1 rfl)
   have p0 := cell_regrown (prow3.cell 0 rfl)
   have p1 := cell_regrown (prow3.cell 1 rfl)
   have p2 := cell_regrown (prow3.cell 2 rfl)
   have p3 := cell_regrown (prow3.cell 3 rfl)
   have p4 := cell_regrown (prow3.cell 4 rfl)
   have p5 := cell_regrown (prow3.cell 5 rfl)
   have u0 := cell_regrown (urow3.cell 0 rfl)
   have u1 := cell_regrown (urow3.cell 1 rfl)
   have u2 := cell_regrown (urow3.cell 2 rfl)
   have s0 := cell_regrown (cell_later hba3 he0)
   have s1 := cell_regrown (cell_later hba3 he1)
   have s2 := cell_regrown (cell_later hba3 he2)
   have s3 := cell_regrown (cell_later hba3 he3)
   have s4 := cell_regrown (cell_later hba3 he4)
   have hcall1 := fun d os' => Calls.regrown_of (w := w3) (spotAt_any (some ⟨bs, os, none⟩) cp x.spots (gu (gq x.parts k).want.uses j).name (grow (redrawn w3 d) os') (hx.later (hbw3.trans ((below_regrown w3 d os').mono hbw3.size))).spots fx.spots.len)
   have hcall2 := fun d os' => Calls.regrown_of (w := w3) (placeOk_any (gp x.spots i) m c (gq x.parts k).want a2 (some ⟨b', o', none⟩) a4 a5 c2 c3 c4 c5 (gu (gq x.parts k).want.uses j) (grow (redrawn w3 d) os') (hs3.later (below_regrown w3 d os')) (hst.later ((hbr2.trans (hba3.mono hbr2.size)).trans ((below_regrown w3 d os').mono (hbr2.trans (hba3.mono hbr2.size)).size))).stuffs hfs.1 hfp.stuffs.1 hls.1 hls.2 ham.1 ham.2)
   rw [hspot] at hcall1
   unfold spotV wantW useV at hcall2
   have hi2 : (i : Int) < x.spots.length := by omega
   have hval : useOkB (spotAtI x.spots (spotI x.spots (gu (gq x.parts k).want.uses j).name)) (gq x.parts k).want (gu (gq x.parts k).want.uses j) = useOkB (gp x.spots i) (gq x.parts k).want (gu (gq x.parts k).want.uses j) := by rw [hspot]; rfl
   have HV : Hid (useOkB (spotAtI x.spots (spotI x.spots (gu (gq x.parts k).want.uses j).name)) (gq x.parts k).want (gu (gq x.parts k).want.uses j) = useOkB (gp x.spots i) (gq x.parts k).want (gu (gq x.parts k).want.uses j)) := hval
   clear hval hspot ham hls hfs
   go_wp2
   rw [HW3.out]
   clear hc0 hc1 hc2 hc3 hc4 hc5 hc6 hd0 hd1 hd2 he0 he1 he2 he3 he4
   refine wp_region_quiet_below (by kernel_rfl) (by kernel_rfl) ?_
   repeat (first | go_big_quiet_step (first | with_reducible exact hcall1 _ _ | with_reducible exact hcall2 _ _) | quiet_step (first | with_reducible exact hcall1 _ _ | with_reducible exact hcall2 _ _))
   refine wpQuiet_nil ?_
   intro w4 hw'
   obtain ⟨⟨dq, osq⟩, hw''⟩ := hw'
   have hb4 : Below w3.heap.size w3 w4 := hw'' ▸ below_regrown w3 dq osq
   have hb5 := hb2.trans ((hba3.trans (hb4.mono hba3.size)).mono hb2.size)
   clear hw'' hcall1 hcall2 r1 p0 p1 p2 p3 p4 p5 u0 u1 u2 s0 s1 s2 s3 s4
   cases hq : useOkB (gp x.spots i) (gq x.parts k).want (gu (gq x.parts k).want.uses j) with
   | false =>
    go_wp2
    go_ret
    refine ⟨ret_bool ?_, below_over (hbela.trans (hb5.mono hbela.size))⟩
    refine (allTo_false k hlt ?_).symm
    exact allTo_false j hjk (by rw [HV.out]; exact hq)
   | true =>
    go_wp2
    go_roundw
    case rel => exact ⟨j + 1, _, rfl, by omega, by go_num, allTo_succ hallj (by rw [HV.out]; exact hq), hb5⟩
    case measure => simp [intOf]; omega

end Go.Proofs.YtfmhkicncgccjaaGreat

/- The map of what is used: its keys, what a look into it gives. -/
namespace Go.Proofs.YtfmhkicncgccjaaGreat
open Go.RowKit Go.Sort Go.WideMaps Go.Maps
set_option linter.unusedSimpArgs false
set_option linter.unusedVariables false
set_option maxRecDepth 100000

/-- A used thing, as a key. -/
def usedV (way : Int) (name : ByteArray) : Value := .agg #[.int .i64 way, .string name]

theorem rowU : (157 : TypeId) < Tryz.prog.types.size := of_decide_eq_true (by kernel_rfl)
theorem wideU : (match Tryz.prog.underlying 157 with | some (.array _ _) | some (.struct _) => true | _ => false) = true := by kernel_rfl
theorem laidU : laidOutB Tryz.prog = true := by kernel_rfl
theorem typeU : Tryz.prog.keyTypeAt 2 157 = true := by kernel_rfl
theorem lawU : KeyLaw Tryz.prog 157 := deep_law_laid laidU (m := 2) (by omega) rowU typeU wideU
theorem keyedU : Keyed Tryz.prog 157 := Keyed.of_law lawU
theorem zeroU (w : World) : (zeroValue 3).run Tryz.prog w = .ok (.int .i64 0) w := by kernel_rfl
theorem mapU : Tryz.prog.underlying 129 = some (.map 157 3) := by kernel_rfl
theorem intU : Tryz.prog.underlying 3 = some (.int .i64) := by kernel_rfl

theorem keyU (way : Int) (hw : (Lit.int .i64 way).wf = true) (name : ByteArray) (hn : name.size ≤ maxLen) : ∃ kl, keyOf Tryz.prog 157 (usedV way name) = some kl := by
 have e : keyOf Tryz.prog 157 (usedV way name) = (((if IntKind.i64 = IntKind.i64 ∧ (Lit.int .i64 way).wf = true then some [Lit.int .i64 way] else none).bind (fun a => (if name.size ≤ maxLen then some [Lit.string name.data.toList] else none).bind (fun b => some [a, b]))).map List.flatten).map (fun ls => .string (keyBytes ls)) := by kernel_rfl
 rw [e, if_pos ⟨rfl, hw⟩, if_pos hn]
 exact ⟨_, rfl⟩

/-- The map at block b holds, for each used thing, how often it is used; at most n keys. -/
def UsedIn (w : World) (b n : Nat) (f : Int → ByteArray → Nat) : Prop :=
 ∃ D : DataW Unit, w.ownsMap Tryz.prog 157 (plainElem Tryz.prog 3) b n D ∧ IsMap D ∧
  ∀ (way : Int) (name : ByteArray) (kl : Lit), keyOf Tryz.prog 157 (usedV way name) = some kl → D.atKey kl (.lit (.int .i64 0)) = .lit (.int .i64 (f way name))

theorem UsedIn.made (w : World) : UsedIn (w.alloc (.map #[] 0)) w.heap.size 0 (fun _ _ => 0) :=
 ⟨.map [], World.ownsMap_made w _ _ _, isMap_empty, fun _ _ _ _ => rfl⟩

theorem UsedIn.look {w : World} {b n : Nat} {f : Int → ByteArray → Nat} (h : UsedIn w b n f) (way : Int) (hw : (Lit.int .i64 way).wf = true) (name : ByteArray) (hn : name.size ≤ maxLen) :
 (Instr.lookup 129 (.map (some b)) (usedV way name) false).run Tryz.prog w = .ok (.int .i64 (f way name)) w := by
 obtain ⟨D, hD, hm, hf⟩ := h
 obtain ⟨kl, hk⟩ := keyU way hw name hn
 obtain ⟨c, h1, h2, _⟩ := hD.lookup_int keyedU mapU intU (zeroU w) hk
 rw [hf way name kl hk] at h2
 injection h2 with h2
 injection h2 with _ h2
 rw [h1, h2]

theorem UsedIn.kept {w w' : World} {b n : Nat} {f : Int → ByteArray → Nat} (h : UsedIn w b n f) (hb : w'.heap[b]? = w.heap[b]?) : UsedIn w' b n f := by
 obtain ⟨D, ⟨es, clock, h1, h2, h3, h4⟩, hm, hf⟩ := h
 exact ⟨D, ⟨es, clock, hb.trans h1, h2, h3, h4⟩, hm, hf⟩

end Go.Proofs.YtfmhkicncgccjaaGreat

/- One more of a used thing: the entry is made, then written. -/
namespace Go.Proofs.YtfmhkicncgccjaaGreat
open Go.RowKit Go.Sort Go.WideMaps Go.Maps Go.ChangeMaps Go.WideElems
set_option linter.unusedSimpArgs false
set_option linter.unusedVariables false
set_option maxRecDepth 100000

/-- Asking for the entry of a key writes what lies there, or zero: it looks like an update with what a look gives. -/
theorem entry_is_update {H : Type} {P : Program} {w : World} {t k e : TypeId} {R : Value → Option (DataW H × List MemPlace)} {b : Nat} {es : Array MapEntry} {clock : Nat}
 (K : KeyLaw P k) (ht : P.underlying t = some (.map k e)) {z : Value} (hz : ∀ u : World, (zeroValue e).run P u = .ok z u) (hb : w.heap[b]? = some (.map es clock)) (F : Go.WideElems.Fit P k R es clock)
 {key : Value} {kl : Lit} (hkey : keyOf P k key = some kl) :
 ∃ (v0 : Value) (st : Value) (w1 : World), (Instr.mapEntry t (.map (some b)) key).run P w = .ok (.tuple #[v0, st]) w1 ∧ (Instr.mapUpdate t (.map (some b)) key v0).run P w = .ok () w1 ∧
  (Instr.lookup t (.map (some b)) key false).run P w = .ok v0 w := by
 rcases K.find w hkey es.toList F.keys with ⟨h1, h2⟩ | ⟨j, e0, h1, h2, h3⟩
 · refine ⟨z, goInt clock, setBlock w b (.map (es.push ⟨key, z, clock⟩) (clock + 1)), ?_, ?_, ?_⟩
   · simp [Instr.mapEntry, run_underlying ht, MapKept.run_getObj_map hb, K.check w false hkey, h1, hz, MapKept.run_setObj_map _ hb, Result.andThen, setBlock]
   · simp [Instr.mapUpdate, run_underlying ht, MapKept.run_getObj_map hb, K.check w false hkey, h1, MapKept.run_setObj_map _ hb, Result.andThen, setBlock]
   · simp [Instr.lookup, run_underlying ht, MapKept.run_getObj_map hb, K.check w _ hkey, h1, hz, Result.andThen]
 · have hj : es[j]? = some e0 := by simpa using h2
   refine ⟨e0.val, goInt e0.born, setBlock w b (.map (es.modify j (fun e => { e with key := key })) clock), ?_, ?_, ?_⟩
   · simp [Instr.mapEntry, run_underlying ht, MapKept.run_getObj_map hb, K.check w false hkey, h1, hj, h3, K.stays w hkey, MapKept.run_setObj_map _ hb, Result.andThen, setBlock]
   · have hsame : es.modify j (fun e' => { e' with key := key, val := e0.val }) = es.modify j (fun e => { e with key := key }) := by
      apply Array.ext'
      rw [Array.toList_modify, Array.toList_modify, modify_eq_set _ _ _ _ h2, modify_eq_set _ _ _ _ h2]
     simp [Instr.mapUpdate, run_underlying ht, MapKept.run_getObj_map hb, K.check w false hkey, h1, hj, h3, K.stays w hkey, hsame, MapKept.run_setObj_map _ hb, Result.andThen, setBlock]
   · simp [Instr.lookup, run_underlying ht, MapKept.run_getObj_map hb, K.check w _ hkey, h1, Result.andThen]

/-- One more of this thing. -/
def bump (f : Int → ByteArray → Nat) (way : Int) (name : ByteArray) : Int → ByteArray → Nat := fun y m => if y = way ∧ m = name then f y m + 1 else f y m

theorem UsedIn.put {w : World} {b n : Nat} {f : Int → ByteArray → Nat} (h : UsedIn w b n f) (hn : n < maxLen) (way : Int) (hw : (Lit.int .i64 way).wf = true) (name : ByteArray) (hs : name.size ≤ maxLen) (c : Nat) (hc : (Lit.int .i64 (c : Int)).wf = true) :
 ∃ w2, (Instr.mapUpdate 129 (.map (some b)) (usedV way name) (.int .i64 c)).run Tryz.prog w = .ok () w2 ∧ UsedIn w2 b (n + 1) (fun y m => if y = way ∧ m = name then c else f y m) ∧ w.grownBy w2 (some b) := by
 obtain ⟨D, hD, hm, hf⟩ := h
 obtain ⟨kl, hk⟩ := keyU way hw name hs
 obtain ⟨w2, h1, h2, h3⟩ := hD.update keyedU mapU hn hk (plainElem_int intU hc)
 refine ⟨w2, h1, ⟨_, h2, hm.put _ _, fun y m kl' hk' => ?_⟩, h3⟩
 show _ = DataW.lit (Lit.int .i64 ((if y = way ∧ m = name then c else f y m : Nat) : Int))
 by_cases e : y = way ∧ m = name
 · rw [if_pos e]
   obtain ⟨rfl, rfl⟩ := e
   rw [hk] at hk'
   injection hk' with hk'
   subst hk'
   exact atKey_put_same hm (keyedU.key hk) _ _
 · rw [if_neg e]
   have hne : kl' ≠ kl := fun e1 => by
    subst e1
    have := keyedU.inj hk' hk
    unfold usedV at this
    injection this with this
    simp at this
    exact e this
   rw [atKey_put_other hne]
   exact hf y m kl' hk'

theorem UsedIn.congr {w : World} {b n : Nat} {f g : Int → ByteArray → Nat} (h : UsedIn w b n f) (e : ∀ y m, f y m = g y m) : UsedIn w b n g := by
 have : f = g := funext fun y => funext fun m => e y m
 rw [← this]; exact h

theorem wf_of_small {c : Int} (h0 : 0 ≤ c) (h : c ≤ 1000000) : (Lit.int .i64 c).wf = true := by
 have e1 : IntKind.i64.min = -9223372036854775808 := rfl
 have e2 : IntKind.i64.max = 9223372036854775807 := rfl
 simp [Lit.wf, e1, e2]; omega

theorem UsedIn.bump {w : World} {b n : Nat} {f : Int → ByteArray → Nat} (h : UsedIn w b n f) (hn : n < maxLen) (way : Int) (hw : (Lit.int .i64 way).wf = true) (name : ByteArray) (hs : name.size ≤ maxLen) (hc : f way name < 100000) :
 ∃ st w1 w2, (Instr.mapEntry 129 (.map (some b)) (usedV way name)).run Tryz.prog w = .ok (.tuple #[.int .i64 (f way name), st]) w1 ∧
  (Instr.lookup 129 (.map (some b)) (usedV way name) false).run Tryz.prog w = .ok (.int .i64 (f way name)) w ∧
  (Instr.lookup 129 (.map (some b)) (usedV way name) false).run Tryz.prog w1 = .ok (.int .i64 (f way name)) w1 ∧
  (Instr.entryStore 129 (.map (some b)) st (.int .i64 ((f way name : Int) + 1))).run Tryz.prog w1 = .ok () w2 ∧
  UsedIn w2 b (n + 1) (bump f way name) ∧ w.grownBy w2 (some b) := by
 have hl := h.look way hw name hs
 have hk := keyU way hw name hs
 have hu1 := h.put hn way hw name hs (f way name) (wf_of_small (by omega) (by omega))
 have hu2 := h.put hn way hw name hs (f way name + 1) (wf_of_small (by omega) (by omega))
 obtain ⟨kl, hk⟩ := hk
 obtain ⟨D, ⟨es, clock, hb, F, hsz, hD⟩, hm, hf⟩ := h
 obtain ⟨v0, st, w1, e1, e2, e3⟩ := entry_is_update lawU mapU zeroU hb F hk
 rw [hl] at e3
 injection e3 with e3 _
 subst e3
 obtain ⟨w1', g1, g2, g3⟩ := hu1
 rw [e2] at g1
 injection g1 with _ g1
 subst g1
 obtain ⟨v0', st', es1, clock1, k1, _, k3⟩ := entry_then_store lawU mapU zeroU hb F hk
 rw [e1] at k1
 injection k1 with k1 k2
 injection k1 with k1
 simp at k1
 obtain ⟨rfl, rfl⟩ := k1
 obtain ⟨w2, q1, q2, q3⟩ := hu2
 have hw1 : w1.heap[b]? = some (.map es1 clock1) := by rw [k2]; exact heap_setBlock_same hb _
 obtain ⟨es', clock', r1, r2⟩ := k3 w1 (.int .i64 ((f way name + 1 : Nat) : Int)) hw1
 rw [q1] at r2
 injection r2 with _ r2
 refine ⟨_, w1, w2, e1, hl, ?_, ?_, q2.congr (fun y m => ?_), q3⟩
 · have := g2.look way hw name hs
   simpa using this
 · rw [show ((f way name : Int) + 1) = ((f way name + 1 : Nat) : Int) by omega, r1, r2, k2]
   simp [setBlock, Array.setIfInBounds_setIfInBounds]
 · unfold Proofs.YtfmhkicncgccjaaGreat.bump
   by_cases e : y = way ∧ m = name
   · rw [if_pos e, if_pos e, e.1, e.2]
   · rw [if_neg e, if_neg e]

end Go.Proofs.YtfmhkicncgccjaaGreat

/- A want uses a place that is used already: looks into the map. -/
namespace Go.Proofs.YtfmhkicncgccjaaGreat
open Go.RowKit Go.Sort Go.Maps
set_option linter.unusedSimpArgs false
set_option linter.unusedVariables false
set_option maxRecDepth 100000

theorem UsedIn.lt {w : World} {b n : Nat} {f : Int → ByteArray → Nat} (h : UsedIn w b n f) : b < w.heap.size := by
 obtain ⟨D, hD, _⟩ := h
 exact hD.lt
theorem UsedIn.later {w w' : World} {b n : Nat} {f : Int → ByteArray → Nat} (h : UsedIn w b n f) (hb : Below w.heap.size w w') : UsedIn w' b n f := h.kept (hb.block _ h.lt)

set_option maxHeartbeats 2000000 in
theorem usesPlaceOf_any (bm n : Nat) (f : Int → ByteArray → Nat) (y : Want) (a2 a3 a4 a5 : Option Addr) (c2 c3 c4 c5 : Nat) (w : World) (hu : UsedIn w bm n f) (hy : WantIn w y a2 a3 a4 a5) (fy : WantFit y) :
 Calls Tryz.prog 105 #[.map (some bm), wantW y a2 a3 a4 a5 c2 c3 c4 c5] w fun e w' => e = .returned (.bool (anyTo y.uses.length (fun i => decide (0 < f 0 (gu y.uses i).name)))) ∧ Below w.heap.size w w' := by
 have hl3 := fy.usesLen
 unfold maxLen at hl3
 unfold wantW
 have b0 : Below w.heap.size w (w.alloc (.cells (wantL y a2 a3 a4 a5 c2 c3 c4 c5).toArray 38)) := (Below.refl _ _).alloc (Nat.le_refl _) _
 go_enter Tryz.func105, Tryz.ntmps105
 go_wp2
 go_loopw [6, 10] (fun _ i wr => ∃ (k : Nat), k ≤ y.uses.length ∧ i = .int .i64 k ∧ allTo k (fun i => !decide (0 < f 0 (gu y.uses i).name)) = true ∧ Below (w.alloc (.cells (wantL y a2 a3 a4 a5 c2 c3 c4 c5).toArray 38)).heap.size (w.alloc (.cells (wantL y a2 a3 a4 a5 c2 c3 c4 c5).toArray 38)) wr) (fun _ i _ => y.uses.length - (intOf i).toNat)
 case atStart => exact ⟨0, Nat.zero_le _, rfl, rfl, Below.refl _ _⟩
 case round wr =>
  obtain ⟨k, hk, rfl, hall, hbel⟩ := hrel
  have hbw := b0.trans (hbel.mono b0.size)
  by_cases hlt : k < y.uses.length
  · obtain ⟨b, o, ha, hb, hc0, hc1, hc2⟩ := (hy.later hbw).uses.at hlt
    have hsz : (gu y.uses k).name.size ≤ maxLen := fy.usesNames _ (by rw [gu_lt hlt]; exact List.getElem_mem hlt)
    have hba : Below wr.heap.size wr (wr.alloc (.cells #[.string (gu y.uses k).name, .int .i64 (gu y.uses k).role, .int .i64 (gu y.uses k).amount] 101)) := (Below.refl _ _).alloc (Nat.le_refl _) _
    have hrun := ((hu.later hbw).later hba).look 0 (by decide) (gu y.uses k).name hsz
    unfold usedV at hrun
    have hbel1 := hbel.trans (hba.mono hbel.size)
    subst ha
    generalize hf0 : f 0 (gu y.uses k).name = c at hrun
    have HF : Hid (f 0 (gu y.uses k).name = c) := hf0
    clear hf0 hba hsz
    by_cases hq : 0 < c
    · have hq' : (0 : Int) < c := by omega
      go_wp2
      go_ret
      exact ⟨ret_bool (anyTo_iff.2 ⟨k, hlt, by rw [HF.out]; exact decide_eq_true hq⟩).symm, b0.trans (hbel1.mono b0.size)⟩
    · have hq' : ¬ (0 : Int) < c := by omega
      go_wp2
      go_roundw
      case rel => exact ⟨k + 1, by omega, by go_num, allTo_succ hall (by rw [HF.out, decide_eq_false hq]; rfl), hbel1⟩
      case measure => simp [intOf]; omega
  · go_wp2
    go_ret
    have : k = y.uses.length := by omega
    subst this
    exact ⟨ret_bool (by unfold anyTo; rw [hall]; rfl), hbw⟩

/-- A want's valves cross what the map holds. -/
def crossI (f : Int → ByteArray → Nat) (y : Want) : Bool := anyTo y.opens.length (fun i => decide (0 < f 1 (gs y.opens i)) || decide (0 < f 2 (gs y.opens i))) || anyTo y.shuts.length (fun i => decide (0 < f 1 (gs y.shuts i)))

set_option maxHeartbeats 2000000 in
theorem crosses_any (bm n : Nat) (f : Int → ByteArray → Nat) (y : Want) (a2 a3 a4 a5 : Option Addr) (c2 c3 c4 c5 : Nat) (w : World) (hu : UsedIn w bm n f) (hy : WantIn w y a2 a3 a4 a5) (fy : WantFit y) :
 Calls Tryz.prog 106 #[.map (some bm), wantW y a2 a3 a4 a5 c2 c3 c4 c5] w fun e w' => e = .returned (.bool (crossI f y)) ∧ Below w.heap.size w w' := by
 have hl4 := fy.opens.1
 have hl5 := fy.shuts.1
 unfold maxLen at hl4 hl5
 unfold wantW
 have b0 : Below w.heap.size w (w.alloc (.cells #[.int .i64 y.number, .int .i64 y.kind, .slice a2 y.stuffs.length c2, .slice a3 y.uses.length c3, .slice a4 y.opens.length c4, .slice a5 y.shuts.length c5] 38)) := (Below.refl _ _).alloc (Nat.le_refl _) _
 have hy0 := hy.later b0
 have hu0 := hu.later b0
 go_enter Tryz.func106, Tryz.ntmps106
 go_wp2
 go_loop [6, 12] (fun _ i => ∃ (k : Nat), k ≤ y.opens.length ∧ i = .int .i64 k ∧ allTo k (fun i => !(decide (0 < f 1 (gs y.opens i)) || decide (0 < f 2 (gs y.opens i)))) = true) (fun _ i => y.opens.length - (intOf i).toNat)
 case atStart => exact ⟨0, Nat.zero_le _, rfl, rfl⟩
 case round =>
  obtain ⟨k, hk, rfl, hall⟩ := hrel
  by_cases hlt : k < y.opens.length
  · obtain ⟨b, o, ha, hb, hc⟩ := hy0.opens.at hlt
    have hsz : (gs y.opens k).size ≤ maxLen := fy.opens.2 _ (by rw [gs_lt hlt]; exact List.getElem_mem hlt)
    have hrun1 := hu0.look 1 (by decide) (gs y.opens k) hsz
    have hrun2 := hu0.look 2 (by decide) (gs y.opens k) hsz
    unfold usedV at hrun1 hrun2
    subst ha
    generalize hf1 : f 1 (gs y.opens k) = c at hrun1
    have HF1 : Hid (f 1 (gs y.opens k) = c) := hf1
    generalize hf2 : f 2 (gs y.opens k) = d at hrun2
    have HF2 : Hid (f 2 (gs y.opens k) = d) := hf2
    clear hf1 hf2 hsz
    by_cases hq : 0 < c
    · have hq' : (0 : Int) < c := by omega
      go_wp2
      go_ret
      exact ⟨ret_bool (by unfold crossI; rw [anyTo_iff.2 ⟨k, hlt, by rw [HF1.out, decide_eq_true hq]; rfl⟩]; rfl), b0⟩
    · have hq' : ¬ (0 : Int) < c := by omega
      by_cases hp : 0 < d
      · have hp' : (0 : Int) < d := by omega
        go_wp2
        go_ret
        exact ⟨ret_bool (by unfold crossI; rw [anyTo_iff.2 ⟨k, hlt, by rw [HF2.out, decide_eq_true hp, Bool.or_true]⟩]; rfl), b0⟩
      · have hp' : ¬ (0 : Int) < d := by omega
        go_wp2
        go_round
        case rel => exact ⟨k + 1, by omega, by go_num, allTo_succ hall (by rw [HF1.out, HF2.out, decide_eq_false hq, decide_eq_false hp]; rfl)⟩
        case measure => simp [intOf]; omega
  · have hkk : k = y.opens.length := by omega
    have HA1 : Hid (anyTo y.opens.length (fun i => decide (0 < f 1 (gs y.opens i)) || decide (0 < f 2 (gs y.opens i))) = false) := by rw [← hkk]; unfold anyTo Hid; rw [hall]; rfl
    clear hall
    go_wp2
    go_loop [8, 32] (fun _ i => ∃ (k : Nat), k ≤ y.shuts.length ∧ i = .int .i64 k ∧ allTo k (fun i => !decide (0 < f 1 (gs y.shuts i))) = true) (fun _ i => y.shuts.length - (intOf i).toNat)
    case atStart => exact ⟨0, Nat.zero_le _, rfl, rfl⟩
    case round =>
     obtain ⟨k2, hk2, rfl, hall⟩ := hrel
     by_cases hlt2 : k2 < y.shuts.length
     · obtain ⟨b, o, ha, hb, hc⟩ := hy0.shuts.at hlt2
       have hsz : (gs y.shuts k2).size ≤ maxLen := fy.shuts.2 _ (by rw [gs_lt hlt2]; exact List.getElem_mem hlt2)
       have hrun1 := hu0.look 1 (by decide) (gs y.shuts k2) hsz
       unfold usedV at hrun1
       subst ha
       generalize hf1 : f 1 (gs y.shuts k2) = c at hrun1
       have HF1 : Hid (f 1 (gs y.shuts k2) = c) := hf1
       clear hf1 hsz
       by_cases hq : 0 < c
       · have hq' : (0 : Int) < c := by omega
         go_wp2
         go_ret
         exact ⟨ret_bool (by unfold crossI; rw [HA1.out, anyTo_iff.2 ⟨k2, hlt2, by rw [HF1.out, decide_eq_true hq]⟩]; rfl), b0⟩
       · have hq' : ¬ (0 : Int) < c := by omega
         go_wp2
         go_round
         case rel => exact ⟨k2 + 1, by omega, by go_num, allTo_succ hall (by rw [HF1.out, decide_eq_false hq]; rfl)⟩
         case measure => simp [intOf]; omega
     · go_wp2
       go_ret
       have : k2 = y.shuts.length := by omega
       subst this
       exact ⟨ret_bool (by unfold crossI; rw [HA1.out]; unfold anyTo; rw [hall]; rfl), b0⟩

end Go.Proofs.YtfmhkicncgccjaaGreat

