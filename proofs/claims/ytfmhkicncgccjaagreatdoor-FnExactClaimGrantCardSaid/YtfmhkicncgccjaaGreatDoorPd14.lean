/- Joined: CdU. -/
import Derived.Test.YtfmhkicncgccjaaGreatDoorPd12
import Derived.Test.YtfmhkicncgccjaaGreatDoorPd05
import Derived.Shelf.Abstract
import Derived.Shelf.RegionOpen
import Derived.OwnWalkIn
import Derived.TacticsInMore
import Derived.LoopNIn
import Derived.LoopIn
import Derived.Stop.RegionWithIn
/- What the iterator of looks at places hands on. -/
namespace Go.Proofs.YtfmhkicncgccjaaGreatDoor
open Go.RowKit Go.Sort
set_option linter.unusedSimpArgs false
set_option linter.unusedVariables false
attribute [local go_sem] Oper.semAt_some

/-- Code ends normally, in this frame and such a world. -/
def cutPost (A : Act) (T : World → Prop) : Exit → Act → World → Prop
  | .normal, a, w => a = A ∧ T w
  | _, _, _ => False
/-- A piece of code that ends in one and the same frame, whatever its order. -/
theorem wp_cut {P : Program} {c : Code} {Q : Exit → Act → World → Prop} {a : Act} {w : World} (T : World → Prop) (h : ∃ A : Act, c.wpIn Fence.wide 0 P (cutPost A T) a w ∧ ∀ w', T w' → Q .normal A w') : c.wp P Q a w := by
  obtain ⟨A, h1, h2⟩ := h
  refine (wpIn_wide (n := 0)).1 (wpIn_mono h1 ?_)
  intro e a' w' hp
  cases e with
  | normal => obtain ⟨rfl, ht⟩ := hp; exact h2 w' ht
  | _ => exact hp.elim

theorem placeLooks_any (x : Book) (af ap av aq : Option Addr) (cf cp cv cq : Nat) (y : Want) (a2 a3 a4 a5 : Option Addr) (c2 c3 c4 c5 : Nat) (w : World) :
    Calls Tryz.prog 111 #[bookV x af ap av aq cf cp cv cq, wantW y a2 a3 a4 a5 c2 c3 c4 c5] w fun e w' => e = .returned (.func (.func 134) #[] #[.pointer (some ⟨w.heap.size + 1, 0, none⟩), .pointer (some ⟨w.heap.size, 0, none⟩)]) ∧ w' = (w.alloc (.cells (bookL x af ap av aq cf cp cv cq).toArray 38)).alloc (.cells (wantL y a2 a3 a4 a5 c2 c3 c4 c5).toArray 42) := by
  unfold bookV wantW
  go_enter Tryz.func111, Tryz.ntmps111
  go_wp2
  go_ret
  exact ⟨rfl, rfl⟩

/-- The function of a look at a place. -/
def lookP : Nat → Nat
  | 0 => 135
  | _ => 136
/-- The code of what it finds. -/
def pC (x : Book) (y : Want) : Nat → Nat → Int
  | 0 => mayC x y
  | _ => amtAt x y
/-- What the looks at places ahead of look k have told. -/
structure PTold (x : Book) (y : Want) (k : Nat) : Prop where
  may : 1 ≤ k → zerosTo y.uses.length (mayC x y) = true
  amt : 2 ≤ k → zerosTo y.uses.length (amtAt x y) = true
theorem PTold.zero (x : Book) (y : Want) : PTold x y 0 := ⟨fun h => by omega, fun h => by omega⟩
theorem PTold.next {x : Book} {y : Want} : ∀ {k : Nat}, k < 2 → PTold x y k → zerosTo y.uses.length (pC x y k) = true → PTold x y (k + 1)
  | 0, _, h, hz => ⟨fun _ => hz, fun h => by omega⟩
  | 1, _, h, hz => ⟨fun _ => h.may (by omega), fun _ => hz⟩
  | k + 2, hk, _, _ => by omega
theorem PTold.hit {x : Book} {y : Want} : ∀ {k : Nat}, k < 2 → PTold x y k → ∀ {i : Nat}, i < y.uses.length → zerosTo i (pC x y k) = true → pC x y k i ≠ 0 → placeO x y = some (aboutV (gu y.uses i).name (reasonV (pC x y k i)))
  | 0, _, h, i, hi, hz, hne => by
    unfold placeO
    rw [firstIdx_hit (p := mayC x y) hz hne hi]
    rfl
  | 1, _, h, i, hi, hz, hne => by
    unfold placeO
    rw [firstIdx_zeros (h.may (by omega)), firstIdx_hit (p := amtAt x y) hz hne hi]
    rfl
  | k + 2, hk, _, _, _, _, _ => by omega
theorem PTold.none {x : Book} {y : Want} (h : PTold x y 2) : placeO x y = none := by
  unfold placeO
  rw [firstIdx_zeros (h.may (by omega)), firstIdx_zeros (h.amt (by omega))]
theorem lookP_enters : ∀ (k : Nat), k < 2 → ∀ args w, (callFunc (lookP k) args).run Tryz.prog w = .ok (.enter (lookP k) args) w
  | 0, _ => enters_of Tryz.func135 (by kernel_rfl) rfl
  | 1, _ => enters_of Tryz.func136 (by kernel_rfl) rfl
  | k + 2, hk => by omega
/-- The two functions, as they lie in a list. -/
def lookPL : List Value := [.func (.func 135) #[] #[], .func (.func 136) #[] #[]]
theorem lookPL_at : ∀ (k : Nat), k < 2 → lookPL[k]? = some (.func (.func (lookP k)) #[] #[])
  | 0, _ => rfl
  | 1, _ => rfl
  | k + 2, hk => by omega

theorem placeLook_any (x : Book) (af : Option Addr) (cf : Nat) (y : Want) (ad2 : Addr) (a3 a4 a5 : Option Addr) (c2 c3 c4 c5 : Nat) (fx : BookFit x) (hb : bookB x = true) (hw : wantB y = true) {i : Nat} (hi : i < y.uses.length) {j : Nat} (hj : j < x.spots.length) (hs : spotI x.spots (gu y.uses i).name = (j : Int)) (m : Option Addr) (c : Nat) : ∀ (k : Nat), k < 2 → ∀ (w : World), FoesAt w af x.foes → StrsAt w m (gp x.spots j).may → StrsAt w (some ad2) y.stuffs →
    Calls Tryz.prog (lookP k) #[placeV x.foes af cf (gp x.spots j) m c y (some ad2) a3 a4 a5 c2 c3 c4 c5 (gu y.uses i)] w fun e w' => e = .returned (cV (pC x y k i)) ∧ Below w.heap.size w w'
  | 0, _, w, h1, h2, h3 => by
    have e : mayC x y i = if y.kind == 1 then mayCode x.foes (gp x.spots j) y (gu y.uses i) else 0 := by unfold mayC mayAt spotOf spotAtI; rw [hs]; rfl
    refine (lookAtMay_any x.foes af cf (gp x.spots j) m c y ad2 a3 a4 a5 c2 c3 c4 c5 (gu y.uses i) w h1 fx.foes.len h2 h3 (by have := bookB_mays hb _ (gp_mem hj); omega) (by have := (wantB_parts hw).1; omega) (want_stuffs hw).2).mono ?_
    rintro e' w' ⟨rfl, hb'⟩
    exact ⟨by rw [mayW_code (spot_may hb hj) (want_stuffs hw).1, ← e]; rfl, hb'⟩
  | 1, _, w, h1, h2, h3 => by
    have e : amtAt x y i = amtCode (gp x.spots j) y (gu y.uses i) := by unfold amtAt spotOf spotAtI; rw [hs]; rfl
    have hm := bookB_most hb _ (gp_mem hj)
    have ha := wantB_amount hw hi
    refine (lookAtAmount_any x.foes af cf (gp x.spots j) m c y (some ad2) a3 a4 a5 c2 c3 c4 c5 (gu y.uses i) w hm.1 hm.2 ha.1 ha.2).mono ?_
    rintro e' w' ⟨rfl, hb'⟩
    exact ⟨by rw [amtW_code (fun hr => role_move hw hi hr), ← e]; rfl, hb'⟩
  | k + 2, hk, _, _, _, _ => by omega

/-- Block B holds a place that is used. -/
def PlaceBox (X : World) (B : Nat) (l : List Value) : Prop := ∀ n v, l[n]? = some v → X.cell? ⟨B, n, none⟩ = some v
theorem PlaceBox.new (w : World) (t : TypeId) (l : List Value) : PlaceBox (w.alloc (.cells l.toArray t)) w.heap.size l := fun n v h => (Row.new w t l).cell n h

theorem below_of_drew {w w' : World} (h : Below w.drew.heap.size w.drew w') : Below w.heap.size w w' := ⟨h.os, h.tape, h.output, h.size, h.block⟩
set_option maxHeartbeats 2000000 in
theorem PlaceBox.sets {w : World} {B : Nat} {v0 v1 v2 v3 v4 v5 v6 v7 v8 v9 v10 v11 v12 v13 v14 t0 t1 t2 t3 t4 t5 t6 t7 t8 t9 t10 t11 t12 t13 t14 : Value} (h0 : w.cell? ⟨B, 0, none⟩ = some t0) (h1 : w.cell? ⟨B, 1, none⟩ = some t1) (h2 : w.cell? ⟨B, 2, none⟩ = some t2) (h3 : w.cell? ⟨B, 3, none⟩ = some t3) (h4 : w.cell? ⟨B, 4, none⟩ = some t4) (h5 : w.cell? ⟨B, 5, none⟩ = some t5) (h6 : w.cell? ⟨B, 6, none⟩ = some t6) (h7 : w.cell? ⟨B, 7, none⟩ = some t7) (h8 : w.cell? ⟨B, 8, none⟩ = some t8) (h9 : w.cell? ⟨B, 9, none⟩ = some t9) (h10 : w.cell? ⟨B, 10, none⟩ = some t10) (h11 : w.cell? ⟨B, 11, none⟩ = some t11) (h12 : w.cell? ⟨B, 12, none⟩ = some t12) (h13 : w.cell? ⟨B, 13, none⟩ = some t13) (h14 : w.cell? ⟨B, 14, none⟩ = some t14) :
    PlaceBox (((((((((((((((w.setCell ⟨B, 0, none⟩ v0).setCell ⟨B, 1, none⟩ v1).setCell ⟨B, 2, none⟩ v2).setCell ⟨B, 3, none⟩ v3).setCell ⟨B, 4, none⟩ v4).setCell ⟨B, 5, none⟩ v5).setCell ⟨B, 6, none⟩ v6).setCell ⟨B, 7, none⟩ v7).setCell ⟨B, 8, none⟩ v8).setCell ⟨B, 9, none⟩ v9).setCell ⟨B, 10, none⟩ v10).setCell ⟨B, 11, none⟩ v11).setCell ⟨B, 12, none⟩ v12).setCell ⟨B, 13, none⟩ v13).setCell ⟨B, 14, none⟩ v14) B [v0, v1, v2, v3, v4, v5, v6, v7, v8, v9, v10, v11, v12, v13, v14] := by
  intro n v h
  match n, h with
  | 0, h => cases h; simp [World.cell?_setCell_same', World.cell?_setCell_other, h0, h1, h2, h3, h4, h5, h6, h7, h8, h9, h10, h11, h12, h13, h14]
  | 1, h => cases h; simp [World.cell?_setCell_same', World.cell?_setCell_other, h0, h1, h2, h3, h4, h5, h6, h7, h8, h9, h10, h11, h12, h13, h14]
  | 2, h => cases h; simp [World.cell?_setCell_same', World.cell?_setCell_other, h0, h1, h2, h3, h4, h5, h6, h7, h8, h9, h10, h11, h12, h13, h14]
  | 3, h => cases h; simp [World.cell?_setCell_same', World.cell?_setCell_other, h0, h1, h2, h3, h4, h5, h6, h7, h8, h9, h10, h11, h12, h13, h14]
  | 4, h => cases h; simp [World.cell?_setCell_same', World.cell?_setCell_other, h0, h1, h2, h3, h4, h5, h6, h7, h8, h9, h10, h11, h12, h13, h14]
  | 5, h => cases h; simp [World.cell?_setCell_same', World.cell?_setCell_other, h0, h1, h2, h3, h4, h5, h6, h7, h8, h9, h10, h11, h12, h13, h14]
  | 6, h => cases h; simp [World.cell?_setCell_same', World.cell?_setCell_other, h0, h1, h2, h3, h4, h5, h6, h7, h8, h9, h10, h11, h12, h13, h14]
  | 7, h => cases h; simp [World.cell?_setCell_same', World.cell?_setCell_other, h0, h1, h2, h3, h4, h5, h6, h7, h8, h9, h10, h11, h12, h13, h14]
  | 8, h => cases h; simp [World.cell?_setCell_same', World.cell?_setCell_other, h0, h1, h2, h3, h4, h5, h6, h7, h8, h9, h10, h11, h12, h13, h14]
  | 9, h => cases h; simp [World.cell?_setCell_same', World.cell?_setCell_other, h0, h1, h2, h3, h4, h5, h6, h7, h8, h9, h10, h11, h12, h13, h14]
  | 10, h => cases h; simp [World.cell?_setCell_same', World.cell?_setCell_other, h0, h1, h2, h3, h4, h5, h6, h7, h8, h9, h10, h11, h12, h13, h14]
  | 11, h => cases h; simp [World.cell?_setCell_same', World.cell?_setCell_other, h0, h1, h2, h3, h4, h5, h6, h7, h8, h9, h10, h11, h12, h13, h14]
  | 12, h => cases h; simp [World.cell?_setCell_same', World.cell?_setCell_other, h0, h1, h2, h3, h4, h5, h6, h7, h8, h9, h10, h11, h12, h13, h14]
  | 13, h => cases h; simp [World.cell?_setCell_same', World.cell?_setCell_other, h0, h1, h2, h3, h4, h5, h6, h7, h8, h9, h10, h11, h12, h13, h14]
  | 14, h => cases h; simp [World.cell?_setCell_same', World.cell?_setCell_other, h0, h1, h2, h3, h4, h5, h6, h7, h8, h9, h10, h11, h12, h13, h14]
  | n + 15, h => simp at h

set_option maxRecDepth 100000 in
set_option maxHeartbeats 8000000 in
theorem placeLooks1_first (x : Book) (af ap av aq : Option Addr) (cf cp cv cq : Nat) (y : Want) (ad2 : Addr) (a3 a4 a5 : Option Addr) (c2 c3 c4 c5 : Nat) (bb bw : Nat) (w0 : World) (hbk : Row w0 bb 38 (bookL x af ap av aq cf cp cv cq)) (hwk : Row w0 bw 42 (wantL y (some ad2) a3 a4 a5 c2 c3 c4 c5))
    (hx : BookIn w0 x af ap av aq) (fx : BookFit x) (hy : WantIn w0 y (some ad2) a3 a4 a5) (fy : WantFit y) (hb : bookB x = true) (hw : wantB y = true) (hk : knowsB x y = true) :
    FirstC Tryz.prog 134 #[.pointer (some ⟨bw, 0, none⟩), .pointer (some ⟨bb, 0, none⟩)] w0 (placeO x y) := by
  intro l Jx W hW hJx hnil hhit
  have hl3 := fy.usesLen
  unfold maxLen at hl3
  refine (callsIn_wide (n := 0)).2 ?_
  show Calls Tryz.prog 134 #[.func (.yield l) #[] #[], .pointer (some ⟨bw, 0, none⟩), .pointer (some ⟨bb, 0, none⟩)] W _
  have hx0 := hx.later hW
  have hy0 := hy.later hW
  have i0 := hbk.later hW
  have o0 := hwk.later hW
  have bX : Below W.heap.size W (W.alloc (.cells #[.func (.func 135) #[] #[], .func (.func 136) #[] #[]] 178)) := (Below.refl _ _).alloc (Nat.le_refl _) _
  have rF : Row (W.alloc (.cells #[.func (.func 135) #[] #[], .func (.func 136) #[] #[]] 178)) W.heap.size 178 lookPL := Row.new W _ lookPL
  go_enter Tryz.func134, Tryz.ntmps134
  go_wp2
  generalize W.alloc (.cells #[.func (.func 135) #[] #[], .func (.func 136) #[] #[]] 178) = X0 at bX rF ⊢
  have i1 := i0.later bX
  have o1 := o0.later bX
  clear i0 o0
  go_loopw [5, 7, 8, 11] (fun _ _ _ i wv => ∃ (k : Nat) (X : World), X = wv ∧ k ≤ 2 ∧ i = .int .i64 k ∧ PTold x y k ∧ Below X0.heap.size X0 X) (fun _ _ _ i _ => 2 - (intOf i).toNat)
  case atStart => exact ⟨0, _, rfl, Nat.zero_le _, rfl, PTold.zero x y, Below.refl _ _⟩
  case round =>
    obtain ⟨k, X, rfl, hk2, rfl, htold, hbel⟩ := hrel
    have bW := bX.trans (hbel.mono bX.size)
    have i2 := i1.later hbel
    have o2 := o1.later hbel
    by_cases hlt : k < 2
    · have q1 := (rF.later hbel).cell k (lookPL_at k hlt)
      have z3 := o2.cell 3 rfl
      have hlt2 : (k : Int) < 2 := by omega
      have hk0 : (0 : Int) ≤ k := by omega
      have eg := lookP_enters k hlt
      generalize hfk : lookP k = fk at eg q1
      have HF : Hid (lookP k = fk) := hfk
      clear hfk
      go_wp2
      clear q1 z3
      go_loopw [7, 8, 18] (fun _ _ i wv => ∃ (n : Nat) (wr : World), wr = wv ∧ n ≤ y.uses.length ∧ i = .int .i64 n ∧ zerosTo n (pC x y k) = true ∧ Below X.heap.size X wr) (fun _ _ i _ => y.uses.length - (intOf i).toNat)
      case atStart => exact ⟨0, _, rfl, Nat.zero_le _, rfl, rfl, Below.refl _ _⟩
      case round =>
        obtain ⟨i, wr, rfl, hi, rfl, hall, hbr⟩ := hrel
        have bR := bW.trans (hbr.mono bW.size)
        by_cases hilt : i < y.uses.length
        · obtain ⟨bu, ou, ha, hbu, hc0, hc1, hc2⟩ := (hy0.later bR).uses.at hilt
          obtain ⟨j, hj, hspot⟩ := knowsB_spot hk hilt
          obtain ⟨bs, os, m, c, has, hbs, hd0, hd1, hd2, hd3, hd4, hst⟩ := (hx0.later bR).spots.at hj
          have i3 := i2.later hbr
          have o3 := o2.later hbr
          have hilt2 : (i : Int) < y.uses.length := by omega
          have hi0 : (0 : Int) ≤ i := by omega
          have hj2 : (j : Int) < x.spots.length := by omega
          have hj0 : (0 : Int) ≤ j := by omega
          have hcall : ∀ W', Below wr.heap.size wr W' → Calls Tryz.prog 94 #[.slice ap x.spots.length cp, .string (gu y.uses i).name] W' fun e w' => e = .returned (.int .i64 (spotI x.spots (gu y.uses i).name)) ∧ Below W'.heap.size W' w' := fun W' h' =>
            spotAt_any ap cp x.spots (gu y.uses i).name W' (hx0.later (bR.trans (h'.mono bR.size))).spots fx.spots.len
          have hlook := placeLook_any x af cf y ad2 a3 a4 a5 c2 c3 c4 c5 fx hb hw hilt hj hspot m c k hlt
          rw [HF.out] at hlook
          rw [hspot] at hcall
          subst ha has
          go_wp2_with fail
          have bU : Below wr.heap.size wr (wr.alloc (.cells #[.string (gu y.uses i).name, .int .i64 (gu y.uses i).role, .int .i64 (gu y.uses i).amount] 101)) := (Below.refl _ _).alloc (Nat.le_refl _) _
          have rU : Row (wr.alloc (.cells #[.string (gu y.uses i).name, .int .i64 (gu y.uses i).role, .int .i64 (gu y.uses i).amount] 101)) wr.heap.size 101 [.string (gu y.uses i).name, .int .i64 (gu y.uses i).role, .int .i64 (gu y.uses i).amount] := Row.new wr _ [.string (gu y.uses i).name, .int .i64 (gu y.uses i).role, .int .i64 (gu y.uses i).amount]
          generalize wr.alloc (.cells #[.string (gu y.uses i).name, .int .i64 (gu y.uses i).role, .int .i64 (gu y.uses i).amount] 101) = wu at bU rU ⊢
          have i4 := i3.later bU
          have o4 := o3.later bU
          have d0 := cell_later bU hd0
          have d1 := cell_later bU hd1
          have d2 := cell_later bU hd2
          have d3 := cell_later bU hd3
          have d4 := cell_later bU hd4
          have bRU := bR.trans (bU.mono bR.size)
          have hcall : ∀ W', Below wu.heap.size wu W' → Calls Tryz.prog 94 #[.slice (some ⟨bs, os, none⟩) x.spots.length cp, .string (gu y.uses i).name] W' fun e w' => e = .returned (.int .i64 j) ∧ Later wu W' w' := fun W' h' =>
            (hcall W' (bU.trans (h'.mono bU.size))).mono fun _ _ h => ⟨h.1, Later.of h' h.2⟩
          have hbrU := hbr.trans (bU.mono hbr.size)
          obtain ⟨U, hU⟩ : ∃ U, U = wr.heap.size := ⟨_, rfl⟩
          rw [← hU] at rU ⊢
          have HG : Hid (Below X.heap.size X wu ∧ Below W.heap.size W wu ∧ Below wr.heap.size wr wu) := ⟨hbrU, bRU, bU⟩
          have hS : ∀ w', Below wu.heap.size wu w' → (w'.cell? ⟨bb, 0, none⟩ = some (.slice af x.foes.length cf) ∧ w'.cell? ⟨bb, 1, none⟩ = some (.slice (some ⟨bs, os, none⟩) x.spots.length cp) ∧ w'.cell? ⟨bw, 0, none⟩ = some (.int .i64 y.number) ∧ w'.cell? ⟨bw, 1, none⟩ = some (.int .i64 y.kind) ∧ w'.cell? ⟨bw, 2, none⟩ = some (.slice (some ad2) y.stuffs.length c2) ∧ w'.cell? ⟨bw, 3, none⟩ = some (.slice (some ⟨bu, ou, none⟩) y.uses.length c3) ∧ w'.cell? ⟨bw, 4, none⟩ = some (.slice a4 y.opens.length c4) ∧ w'.cell? ⟨bw, 5, none⟩ = some (.slice a5 y.shuts.length c5) ∧ w'.cell? ⟨U, 0, none⟩ = some (.string (gu y.uses i).name) ∧ w'.cell? ⟨U, 1, none⟩ = some (.int .i64 (gu y.uses i).role) ∧ w'.cell? ⟨U, 2, none⟩ = some (.int .i64 (gu y.uses i).amount) ∧ w'.cell? ⟨bs, os + j * 5, none⟩ = some (.string (gp x.spots j).name) ∧ w'.cell? ⟨bs, os + j * 5 + 1, none⟩ = some (.int .i64 (gp x.spots j).cap) ∧ w'.cell? ⟨bs, os + j * 5 + 2, none⟩ = some (.int .i64 (gp x.spots j).least) ∧ w'.cell? ⟨bs, os + j * 5 + 3, none⟩ = some (.int .i64 (gp x.spots j).most) ∧ w'.cell? ⟨bs, os + j * 5 + 4, none⟩ = some (.slice m (gp x.spots j).may.length c) ∧ Below wu.heap.size wu w' ∧ wu.heap.size ≤ w'.heap.size) := fun w' hb' =>
            ⟨cell_later hb' (i4.cell 0 rfl), cell_later hb' (i4.cell 1 rfl), cell_later hb' (o4.cell 0 rfl), cell_later hb' (o4.cell 1 rfl), cell_later hb' (o4.cell 2 rfl), cell_later hb' (o4.cell 3 rfl), cell_later hb' (o4.cell 4 rfl), cell_later hb' (o4.cell 5 rfl), cell_later hb' (rU.cell 0 rfl), cell_later hb' (rU.cell 1 rfl), cell_later hb' (rU.cell 2 rfl), cell_later hb' (d0), cell_later hb' (d1), cell_later hb' (d2), cell_later hb' (d3), cell_later hb' (d4), hb', hb'.size⟩
          have HL : Hid _ := hlook
          have HN : Hid _ := hnil
          have HH : Hid _ := hhit
          have HJ : Hid _ := hJx
          clear hlook hnil hhit hJx
          clear hU bU hbrU bRU hc0 hc1 hc2 hd0 hd1 hd2 hd3 hd4 i3 o3 i2 o2 hbr hbel i1 o1
          go_region_held3 (fun w' => (w'.cell? ⟨bb, 0, none⟩ = some (.slice af x.foes.length cf) ∧ w'.cell? ⟨bb, 1, none⟩ = some (.slice (some ⟨bs, os, none⟩) x.spots.length cp) ∧ w'.cell? ⟨bw, 0, none⟩ = some (.int .i64 y.number) ∧ w'.cell? ⟨bw, 1, none⟩ = some (.int .i64 y.kind) ∧ w'.cell? ⟨bw, 2, none⟩ = some (.slice (some ad2) y.stuffs.length c2) ∧ w'.cell? ⟨bw, 3, none⟩ = some (.slice (some ⟨bu, ou, none⟩) y.uses.length c3) ∧ w'.cell? ⟨bw, 4, none⟩ = some (.slice a4 y.opens.length c4) ∧ w'.cell? ⟨bw, 5, none⟩ = some (.slice a5 y.shuts.length c5) ∧ w'.cell? ⟨U, 0, none⟩ = some (.string (gu y.uses i).name) ∧ w'.cell? ⟨U, 1, none⟩ = some (.int .i64 (gu y.uses i).role) ∧ w'.cell? ⟨U, 2, none⟩ = some (.int .i64 (gu y.uses i).amount) ∧ w'.cell? ⟨bs, os + j * 5, none⟩ = some (.string (gp x.spots j).name) ∧ w'.cell? ⟨bs, os + j * 5 + 1, none⟩ = some (.int .i64 (gp x.spots j).cap) ∧ w'.cell? ⟨bs, os + j * 5 + 2, none⟩ = some (.int .i64 (gp x.spots j).least) ∧ w'.cell? ⟨bs, os + j * 5 + 3, none⟩ = some (.int .i64 (gp x.spots j).most) ∧ w'.cell? ⟨bs, os + j * 5 + 4, none⟩ = some (.slice m (gp x.spots j).may.length c) ∧ Below wu.heap.size wu w' ∧ wu.heap.size ≤ w'.heap.size))
            ((refine hS _ ?_; repeat (first | with_reducible assumption | with_reducible exact Below.refl _ _ | (with_reducible refine Below.setCell ?_ ?_ _) | (with_reducible refine Below.alloc ?_ ?_ _) | (with_reducible refine Below.drew ?_) | exact Nat.le_refl _ | (simp; done) | (simp; omega) | omega)))
            (first | (go_at_call 94; refine (hcall _ (by repeat (first | assumption | exact Below.refl _ _ | refine Below.drew ?_ | refine Below.alloc ?_ (by (try simp); (try omega)) _))).mono ?_; rintro e w' ⟨rfl, hb', hsz', hlat, hfro⟩; have z0 := hlat ⟨wu.heap.size, 0, none⟩ (.slice none 0 0); have f0 := hfro ⟨wu.heap.size, 0, none⟩ (.slice none 0 0); have z1 := hlat ⟨wu.heap.size, 1, none⟩ (.string { data := #[] }); have f1 := hfro ⟨wu.heap.size, 1, none⟩ (.string { data := #[] }); have z2 := hlat ⟨wu.heap.size, 2, none⟩ (.int .i64 0); have f2 := hfro ⟨wu.heap.size, 2, none⟩ (.int .i64 0); have z3 := hlat ⟨wu.heap.size, 3, none⟩ (.int .i64 0); have f3 := hfro ⟨wu.heap.size, 3, none⟩ (.int .i64 0); have z4 := hlat ⟨wu.heap.size, 4, none⟩ (.int .i64 0); have f4 := hfro ⟨wu.heap.size, 4, none⟩ (.int .i64 0); have z5 := hlat ⟨wu.heap.size, 5, none⟩ (.slice none 0 0); have f5 := hfro ⟨wu.heap.size, 5, none⟩ (.slice none 0 0); have z6 := hlat ⟨wu.heap.size, 6, none⟩ (.int .i64 0); have f6 := hfro ⟨wu.heap.size, 6, none⟩ (.int .i64 0); have z7 := hlat ⟨wu.heap.size, 7, none⟩ (.int .i64 0); have f7 := hfro ⟨wu.heap.size, 7, none⟩ (.int .i64 0); have z8 := hlat ⟨wu.heap.size, 8, none⟩ (.slice none 0 0); have f8 := hfro ⟨wu.heap.size, 8, none⟩ (.slice none 0 0); have z9 := hlat ⟨wu.heap.size, 9, none⟩ (.slice none 0 0); have f9 := hfro ⟨wu.heap.size, 9, none⟩ (.slice none 0 0); have z10 := hlat ⟨wu.heap.size, 10, none⟩ (.slice none 0 0); have f10 := hfro ⟨wu.heap.size, 10, none⟩ (.slice none 0 0); have z11 := hlat ⟨wu.heap.size, 11, none⟩ (.slice none 0 0); have f11 := hfro ⟨wu.heap.size, 11, none⟩ (.slice none 0 0); have z12 := hlat ⟨wu.heap.size, 12, none⟩ (.string { data := #[] }); have f12 := hfro ⟨wu.heap.size, 12, none⟩ (.string { data := #[] }); have z13 := hlat ⟨wu.heap.size, 13, none⟩ (.int .i64 0); have f13 := hfro ⟨wu.heap.size, 13, none⟩ (.int .i64 0); have z14 := hlat ⟨wu.heap.size, 14, none⟩ (.int .i64 0); have f14 := hfro ⟨wu.heap.size, 14, none⟩ (.int .i64 0); try simp at z0 z1 z2 z3 z4 z5 z6 z7 z8 z9 z10 z11 z12 z13 z14 f0 f1 f2 f3 f4 f5 f6 f7 f8 f9 f10 f11 f12 f13 f14))
          all_goals first
            | (have q := PlaceBox.sets (v0 := .slice af x.foes.length cf) (v1 := .string (gp x.spots j).name) (v2 := .int .i64 (gp x.spots j).cap) (v3 := .int .i64 (gp x.spots j).least) (v4 := .int .i64 (gp x.spots j).most) (v5 := .slice m (gp x.spots j).may.length c) (v6 := .int .i64 y.number) (v7 := .int .i64 y.kind) (v8 := .slice (some ad2) y.stuffs.length c2) (v9 := .slice (some ⟨bu, ou, none⟩) y.uses.length c3) (v10 := .slice a4 y.opens.length c4) (v11 := .slice a5 y.shuts.length c5) (v12 := .string (gu y.uses i).name) (v13 := .int .i64 (gu y.uses i).role) (v14 := .int .i64 (gu y.uses i).amount) z0 z1 z2 z3 z4 z5 z6 z7 z8 z9 z10 z11 z12 z13 z14
               have hbX := (((((((((((((((hb').setCell (p := ⟨wu.heap.size, 0, none⟩) (Nat.le_refl _) (.slice af x.foes.length cf)).setCell (p := ⟨wu.heap.size, 1, none⟩) (Nat.le_refl _) (.string (gp x.spots j).name)).setCell (p := ⟨wu.heap.size, 2, none⟩) (Nat.le_refl _) (.int .i64 (gp x.spots j).cap)).setCell (p := ⟨wu.heap.size, 3, none⟩) (Nat.le_refl _) (.int .i64 (gp x.spots j).least)).setCell (p := ⟨wu.heap.size, 4, none⟩) (Nat.le_refl _) (.int .i64 (gp x.spots j).most)).setCell (p := ⟨wu.heap.size, 5, none⟩) (Nat.le_refl _) (.slice m (gp x.spots j).may.length c)).setCell (p := ⟨wu.heap.size, 6, none⟩) (Nat.le_refl _) (.int .i64 y.number)).setCell (p := ⟨wu.heap.size, 7, none⟩) (Nat.le_refl _) (.int .i64 y.kind)).setCell (p := ⟨wu.heap.size, 8, none⟩) (Nat.le_refl _) (.slice (some ad2) y.stuffs.length c2)).setCell (p := ⟨wu.heap.size, 9, none⟩) (Nat.le_refl _) (.slice (some ⟨bu, ou, none⟩) y.uses.length c3)).setCell (p := ⟨wu.heap.size, 10, none⟩) (Nat.le_refl _) (.slice a4 y.opens.length c4)).setCell (p := ⟨wu.heap.size, 11, none⟩) (Nat.le_refl _) (.slice a5 y.shuts.length c5)).setCell (p := ⟨wu.heap.size, 12, none⟩) (Nat.le_refl _) (.string (gu y.uses i).name)).setCell (p := ⟨wu.heap.size, 13, none⟩) (Nat.le_refl _) (.int .i64 (gu y.uses i).role)).setCell (p := ⟨wu.heap.size, 14, none⟩) (Nat.le_refl _) (.int .i64 (gu y.uses i).amount)
               rename_i hHeld
               clear hHeld hlat hfro z0 z1 z2 z3 z4 z5 z6 z7 z8 z9 z10 z11 z12 z13 z14 f0 f1 f2 f3 f4 f5 f6 f7 f8 f9 f10 f11 f12 f13 f14 hb' hsz'
               generalize (((((((((((((((w').setCell ⟨wu.heap.size, 0, none⟩ (.slice af x.foes.length cf)).setCell ⟨wu.heap.size, 1, none⟩ (.string (gp x.spots j).name)).setCell ⟨wu.heap.size, 2, none⟩ (.int .i64 (gp x.spots j).cap)).setCell ⟨wu.heap.size, 3, none⟩ (.int .i64 (gp x.spots j).least)).setCell ⟨wu.heap.size, 4, none⟩ (.int .i64 (gp x.spots j).most)).setCell ⟨wu.heap.size, 5, none⟩ (.slice m (gp x.spots j).may.length c)).setCell ⟨wu.heap.size, 6, none⟩ (.int .i64 y.number)).setCell ⟨wu.heap.size, 7, none⟩ (.int .i64 y.kind)).setCell ⟨wu.heap.size, 8, none⟩ (.slice (some ad2) y.stuffs.length c2)).setCell ⟨wu.heap.size, 9, none⟩ (.slice (some ⟨bu, ou, none⟩) y.uses.length c3)).setCell ⟨wu.heap.size, 10, none⟩ (.slice a4 y.opens.length c4)).setCell ⟨wu.heap.size, 11, none⟩ (.slice a5 y.shuts.length c5)).setCell ⟨wu.heap.size, 12, none⟩ (.string (gu y.uses i).name)).setCell ⟨wu.heap.size, 13, none⟩ (.int .i64 (gu y.uses i).role)).setCell ⟨wu.heap.size, 14, none⟩ (.int .i64 (gu y.uses i).amount) = wx at q hbX ⊢
               obtain ⟨B, hB⟩ : ∃ B, B = wu.heap.size := ⟨_, rfl⟩
               rw [← hB] at q ⊢
               clear hB)
            | (have q := PlaceBox.new w' 181 [.slice af x.foes.length cf, .string (gp x.spots j).name, .int .i64 (gp x.spots j).cap, .int .i64 (gp x.spots j).least, .int .i64 (gp x.spots j).most, .slice m (gp x.spots j).may.length c, .int .i64 y.number, .int .i64 y.kind, .slice (some ad2) y.stuffs.length c2, .slice (some ⟨bu, ou, none⟩) y.uses.length c3, .slice a4 y.opens.length c4, .slice a5 y.shuts.length c5, .string (gu y.uses i).name, .int .i64 (gu y.uses i).role, .int .i64 (gu y.uses i).amount]
               have hbX := hb'.alloc hsz' (.cells #[.slice af x.foes.length cf, .string (gp x.spots j).name, .int .i64 (gp x.spots j).cap, .int .i64 (gp x.spots j).least, .int .i64 (gp x.spots j).most, .slice m (gp x.spots j).may.length c, .int .i64 y.number, .int .i64 y.kind, .slice (some ad2) y.stuffs.length c2, .slice (some ⟨bu, ou, none⟩) y.uses.length c3, .slice a4 y.opens.length c4, .slice a5 y.shuts.length c5, .string (gu y.uses i).name, .int .i64 (gu y.uses i).role, .int .i64 (gu y.uses i).amount] 181)
               rename_i hHeld
               clear hHeld hlat hfro z0 z1 z2 z3 z4 z5 z6 z7 z8 z9 z10 z11 z12 z13 z14 f0 f1 f2 f3 f4 f5 f6 f7 f8 f9 f10 f11 f12 f13 f14 hb' hsz'
               generalize w'.alloc (.cells ([.slice af x.foes.length cf, .string (gp x.spots j).name, .int .i64 (gp x.spots j).cap, .int .i64 (gp x.spots j).least, .int .i64 (gp x.spots j).most, .slice m (gp x.spots j).may.length c, .int .i64 y.number, .int .i64 y.kind, .slice (some ad2) y.stuffs.length c2, .slice (some ⟨bu, ou, none⟩) y.uses.length c3, .slice a4 y.opens.length c4, .slice a5 y.shuts.length c5, .string (gu y.uses i).name, .int .i64 (gu y.uses i).role, .int .i64 (gu y.uses i).amount]).toArray 181) = wx at q hbX ⊢
               generalize w'.heap.size = B at q ⊢)
          all_goals
            clear hS hcall
            obtain ⟨g1, g2, g3⟩ := HG.out
            have b1 : Below X.heap.size X wx := g1.trans (hbX.mono g1.size)
            have b2 : Below W.heap.size W wx := g2.trans (hbX.mono g2.size)
            have b3 : Below wr.heap.size wr wx := g3.trans (hbX.mono g3.size)
            have u0 := cell_later hbX (rU.cell 0 rfl)
            have p0 := q 0 _ rfl
            have p1 := q 1 _ rfl
            have p2 := q 2 _ rfl
            have p3 := q 3 _ rfl
            have p4 := q 4 _ rfl
            have p5 := q 5 _ rfl
            have p6 := q 6 _ rfl
            have p7 := q 7 _ rfl
            have p8 := q 8 _ rfl
            have p9 := q 9 _ rfl
            have p10 := q 10 _ rfl
            have p11 := q 11 _ rfl
            have p12 := q 12 _ rfl
            have p13 := q 13 _ rfl
            have p14 := q 14 _ rfl
            have hc : ∀ W1, Below wx.heap.size wx W1 → Calls Tryz.prog fk #[.agg #[.slice af x.foes.length cf, .string (gp x.spots j).name, .int .i64 (gp x.spots j).cap, .int .i64 (gp x.spots j).least, .int .i64 (gp x.spots j).most, .slice m (gp x.spots j).may.length c, .int .i64 y.number, .int .i64 y.kind, .slice (some ad2) y.stuffs.length c2, .slice (some ⟨bu, ou, none⟩) y.uses.length c3, .slice a4 y.opens.length c4, .slice a5 y.shuts.length c5, .string (gu y.uses i).name, .int .i64 (gu y.uses i).role, .int .i64 (gu y.uses i).amount]] W1 fun e w' => e = .returned (cV (pC x y k i)) ∧ Below W1.heap.size W1 w' := fun W1 h1 =>
              HL.out W1 (hx0.later (b2.trans (h1.mono b2.size))).foes (hst.later (b3.trans (h1.mono b3.size))) (hy0.later (b2.trans (h1.mono b2.size))).stuffs
            clear q g1 g2 g3 hst rU i4 o4 d0 d1 d2 d3 d4 HG hbX b3
            by_cases hz : pC x y k i = 0
            · rw [hz, show cV 0 = .nilIface from if_pos rfl] at hc
              have hY := HN.out
              have hzn := zerosTo_succ hall hz
              clear hz hall
              go_wp2_with fail
              refine wp_cut (fun w' => Below wx.heap.size wx w') ?_
              apply Exists.intro
              refine ⟨?h, ?k⟩
              case h =>
                gi_region_with (first
                  | (refine ⟨trivial, rfl, ?_⟩; refine (callsIn_wide.2 (hc _ (Below.drew (Below.refl _ _)))).mono ?_; rintro e w1 ⟨rfl, hb1⟩; have u0' : w1.cell? ⟨U, 0, none⟩ = some (.string (gu y.uses i).name) := cell_later hb1 u0; obtain ⟨fn, tmps, assign, body, hy1, hR⟩ := hY _ ((Below.drew b2).trans (hb1.mono (Below.drew b2).size)))
                  | (refine ⟨trivial, rfl, ?_⟩; refine (callsIn_wide.2 (about_nil _ _)).mono ?_; rintro e w2 ⟨rfl, rfl⟩)
                  | (refine ⟨rfl, ?_⟩; refine hR.mono ?_; rintro e w3 ⟨rfl, hj⟩))
                all_goals exact ⟨rfl, (below_of_drew hb1).trans (hj.mono hb1.size)⟩
              case k =>
                intro w' hbn
                go_wp2
                go_roundw
                case rel => exact ⟨i + 1, _, rfl, by omega, by go_num, hzn, b1.trans (hbn.mono b1.size)⟩
                case measure => simp [intOf]; omega
            · have hP := PTold.hit hlt htold hilt hall hz
              have hY := HH.out _ hP
              have ec : cV (pC x y k i) = reasonV (pC x y k i) := if_neg hz
              rw [ec] at hc
              have habout : ∀ W1, Calls Tryz.prog 80 #[.string (gu y.uses i).name, reasonV (pC x y k i)] W1 fun e w' => e = .returned (aboutV (gu y.uses i).name (reasonV (pC x y k i))) ∧ W1 = w' := fun W1 => about_some _ _ _ W1
              clear hz hall ec
              go_wp2_with fail
              refine wp_cut Jx ?_
              apply Exists.intro
              refine ⟨?h, ?k⟩
              case h =>
                gi_region_with (first
                  | (refine ⟨trivial, rfl, ?_⟩; refine (callsIn_wide.2 (hc _ (Below.drew (Below.refl _ _)))).mono ?_; rintro e w1 ⟨rfl, hb1⟩; have u0' : w1.cell? ⟨U, 0, none⟩ = some (.string (gu y.uses i).name) := cell_later hb1 u0; obtain ⟨fn, tmps, assign, body, hy1, hR⟩ := hY _ ((Below.drew b2).trans (hb1.mono (Below.drew b2).size)))
                  | (refine ⟨trivial, rfl, ?_⟩; refine (callsIn_wide.2 (habout _)).mono ?_; rintro e w2 ⟨rfl, rfl⟩)
                  | (refine ⟨rfl, ?_⟩; refine hR.mono ?_; rintro e w3 ⟨rfl, hj, -⟩))
                all_goals exact ⟨rfl, hj⟩
              case k =>
                intro w' hj
                go_wp2
                (try simp only [Exit.inBlock, Exit.then]); first | (refine bodyPost_ret (results_none rfl _ _ _) rfl ?_) | (refine bodyPost_end (results_none rfl _ _ _) rfl ?_)
                exact ⟨⟨_, rfl⟩, Or.inr ⟨by rw [hP]; simp, hj⟩⟩
        · have : i = y.uses.length := by omega
          subst this
          go_wp2
          go_roundw
          case rel => exact ⟨k + 1, _, rfl, by omega, by go_num, PTold.next hlt htold hall, hbel.trans (hbr.mono hbel.size)⟩
          case measure => simp [intOf]; omega
    · have : k = 2 := by omega
      subst this
      go_wp2
      (try simp only [Exit.inBlock, Exit.then]); first | (refine bodyPost_ret (results_none rfl _ _ _) rfl ?_) | (refine bodyPost_end (results_none rfl _ _ _) rfl ?_)
      exact ⟨⟨_, rfl⟩, Or.inl ⟨PTold.none htold, bW⟩⟩

end Go.Proofs.YtfmhkicncgccjaaGreatDoor
