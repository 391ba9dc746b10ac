/- Joined: CdS3. -/
import Derived.Deep.RegionHeld3
import Derived.Test.YtfmhkicncgccjaaGreatFm35
/- What the specification's l3Amounts answers. -/
namespace Go.Proofs.YtfmhkicncgccjaaGreat
open Go.RowKit Go.Sort
set_option linter.unusedSimpArgs false
set_option linter.unusedVariables false

/-- Every spot's numbers can be reckoned with. -/
def MostFit (x : Book) : Prop := ∀ s ∈ x.spots, 0 ≤ s.most ∧ s.most ≤ 1000

/-- What a callee leaves that was called in W, itself behind w0. -/
structure Later (w0 W w' : World) : Prop where
 below : Below w0.heap.size w0 w'
 size : w0.heap.size ≤ w'.heap.size
 cell : ∀ (a : Addr) (v : Value), W.cell? a = some v → w'.cell? a = some v
 frozen : ∀ (a : Addr) (v : Value), W.cell? a = some v → W.frozen? a = false → w'.frozen? a = false
theorem Later.of {w0 W w' : World} (h : Below w0.heap.size w0 W) (h' : Below W.heap.size W w') : Later w0 W w' := by
 refine ⟨h.trans (h'.mono h.size), Nat.le_trans h.size h'.size, fun a v hv => cell_later h' hv, fun a v hv hf => ?_⟩
 have hl := block_lt_of_cell hv
 have e := h'.block a.block hl
 unfold World.frozen? at hf ⊢
 rw [e]
 exact hf

theorem amt_9 {s : Spot} {y : Want} {u : Use} (h1 : u.role = 1) (h2 : s.least < u.amount) : amtCode s y u = 9 := by simp [amtCode, h1, h2]
theorem amt_10 {s : Spot} {y : Want} {u : Use} (h1 : u.role = 2) (h2 : s.cap < s.most + u.amount) : amtCode s y u = 10 := by simp [amtCode, h1, h2]
theorem amt_11 {s : Spot} {y : Want} {u : Use} (h1 : ¬ (u.role = 1 ∧ s.least < u.amount)) (h2 : ¬ (u.role = 2 ∧ s.cap < s.most + u.amount)) (h3 : y.kind = 2) (h4 : 0 < s.most) : amtCode s y u = 11 := by
 unfold amtCode
 simp only [Bool.and_eq_true, beq_iff_eq, decide_eq_true_eq]
 rw [if_neg h1, if_neg h2, if_pos ⟨h3, h4⟩]
theorem amt_0 {s : Spot} {y : Want} {u : Use} (h1 : ¬ (u.role = 1 ∧ s.least < u.amount)) (h2 : ¬ (u.role = 2 ∧ s.cap < s.most + u.amount)) (h3 : ¬ (y.kind = 2 ∧ 0 < s.most)) : amtCode s y u = 0 := by
 unfold amtCode
 simp only [Bool.and_eq_true, beq_iff_eq, decide_eq_true_eq]
 rw [if_neg h1, if_neg h2, if_neg h3]
theorem amounts_hit {x : Book} {y : Want} {k : Nat} {c : Int} (h : zerosTo k (amtAt x y) = true) (hk : k < y.uses.length) (hc : amtAt x y k = c) (h0 : c ≠ 0) : amountsC x y = c := by
 unfold amountsC; rw [firstTo_hit h (by rw [hc]; exact h0) hk, hc]

/-- Block B holds a spot. -/
def SpotBox (X : World) (B : Nat) (s : Spot) (m : Option Addr) (c : Nat) : Prop :=
 X.cell? ⟨B, 0, none⟩ = some (.string s.name) ∧ X.cell? ⟨B, 1, none⟩ = some (.int .i64 s.cap) ∧ X.cell? ⟨B, 2, none⟩ = some (.int .i64 s.least) ∧ X.cell? ⟨B, 3, none⟩ = some (.int .i64 s.most) ∧ X.cell? ⟨B, 4, none⟩ = some (.slice m s.may.length c)
theorem SpotBox.new (w : World) (s : Spot) (m : Option Addr) (c : Nat) : SpotBox (w.alloc (.cells #[.string s.name, .int .i64 s.cap, .int .i64 s.least, .int .i64 s.most, .slice m s.may.length c] 72)) w.heap.size s m c := by
 refine ⟨?_, ?_, ?_, ?_, ?_⟩ <;> (rw [World.cell?_alloc_new]; rfl)
theorem SpotBox.sets {w : World} {B : Nat} {s : Spot} {m : Option Addr} {c : Nat} {v0 v1 v2 v3 v4 : Value} (h0 : w.cell? ⟨B, 0, none⟩ = some v0) (h1 : w.cell? ⟨B, 1, none⟩ = some v1) (h2 : w.cell? ⟨B, 2, none⟩ = some v2) (h3 : w.cell? ⟨B, 3, none⟩ = some v3) (h4 : w.cell? ⟨B, 4, none⟩ = some v4) :
 SpotBox (((((w.setCell ⟨B, 0, none⟩ (.string s.name)).setCell ⟨B, 1, none⟩ (.int .i64 s.cap)).setCell ⟨B, 2, none⟩ (.int .i64 s.least)).setCell ⟨B, 3, none⟩ (.int .i64 s.most)).setCell ⟨B, 4, none⟩ (.slice m s.may.length c)) B s m c := by
 refine ⟨?_, ?_, ?_, ?_, ?_⟩ <;> simp [World.cell?_setCell_same', World.cell?_setCell_other, h0, h1, h2, h3, h4]

set_option maxRecDepth 100000 in
set_option maxHeartbeats 4000000 in
theorem l3Amounts_any (x : Book) (af ap av aq : Option Addr) (cf cp cv cq : Nat) (y : Want) (a2 a3 a4 a5 : Option Addr) (c2 c3 c4 c5 : Nat) (w : World) (hx : BookIn w x af ap av aq) (hy : WantIn w y a2 a3 a4 a5) (fx : BookFit x) (fy : WantFit y) (hmf : MostFit x) (hwo : wantB y = true) (hkn : knowsB x y = true) :
 Calls Tryz.prog 174 #[bookV x af ap av aq cf cp cv cq, wantW y a2 a3 a4 a5 c2 c3 c4 c5] w fun e w' => e = .returned (.int .i64 (amountsC x y)) ∧ Below w.heap.size w w' := by
 have hl3 := fy.usesLen
 unfold maxLen at hl3
 unfold bookV wantW
 have b0 : Below w.heap.size w ((w.alloc (.cells (bookL x af ap av aq cf cp cv cq).toArray 28)).alloc (.cells (wantL y a2 a3 a4 a5 c2 c3 c4 c5).toArray 38)) :=
  ((Below.refl _ _).alloc (Nat.le_refl _) _).alloc (by simp) _
 have i0 : Row ((w.alloc (.cells (bookL x af ap av aq cf cp cv cq).toArray 28)).alloc (.cells (wantL y a2 a3 a4 a5 c2 c3 c4 c5).toArray 38)) w.heap.size 28 (bookL x af ap av aq cf cp cv cq) := (Row.new w 28 (bookL x af ap av aq cf cp cv cq)).alloc _
 have o0 : Row ((w.alloc (.cells (bookL x af ap av aq cf cp cv cq).toArray 28)).alloc (.cells (wantL y a2 a3 a4 a5 c2 c3 c4 c5).toArray 38)) (w.heap.size + 1) 38 (wantL y a2 a3 a4 a5 c2 c3 c4 c5) := by
  have := Row.new (w.alloc (.cells (bookL x af ap av aq cf cp cv cq).toArray 28)) 38 (wantL y a2 a3 a4 a5 c2 c3 c4 c5)
  simpa using this
 go_enter Tryz.func174, Tryz.ntmps174
 go_wp2
 go_loopw [5] (fun i wr => ∃ (k : Nat), k ≤ y.uses.length ∧ i = .int .i64 k ∧ zerosTo k (amtAt x y) = true ∧ Below ((w.alloc (.cells (bookL x af ap av aq cf cp cv cq).toArray 28)).alloc (.cells (wantL y a2 a3 a4 a5 c2 c3 c4 c5).toArray 38)).heap.size ((w.alloc (.cells (bookL x af ap av aq cf cp cv cq).toArray 28)).alloc (.cells (wantL y a2 a3 a4 a5 c2 c3 c4 c5).toArray 38)) wr) (fun i _ => y.uses.length - (intOf i).toNat)
 case atStart => exact ⟨0, Nat.zero_le _, rfl, rfl, Below.refl _ _⟩
 case round wr =>
  obtain ⟨k, hk, rfl, hall, hbel⟩ := hrel
  have hbw := b0.trans (hbel.mono b0.size)
  have i3 := i0.later hbel
  have o3 := o0.later hbel
  clear i0 o0 b0
  have y3 := o3.cell 3 rfl
  by_cases hlt : k < y.uses.length
  · obtain ⟨b, o, ha, hb, hc0, hc1, hc2⟩ := (hy.later hbw).uses.at hlt
    obtain ⟨j, hj, hspot⟩ := knowsB_spot hkn hlt
    obtain ⟨bs, os, m, c, has, hbs, hd0, hd1, hd2, hd3, hd4, hst⟩ := (hx.later hbw).spots.at hj
    have ham := wantB_amount hwo hlt
    have hls := hmf _ (gp_mem hj)
    have hcall : ∀ W', Below wr.heap.size wr W' → Calls Tryz.prog 130 #[bookV x af ap av aq cf cp cv cq, .string (gu y.uses k).name] W' fun e w' => e = .returned (.int .i64 (spotI x.spots (gu y.uses k).name)) ∧ Later wr W' w' := fun W' hb' =>
     (l2Spot_any x af ap av aq cf cp cv cq (gu y.uses k).name W' (hx.later (hbw.trans (hb'.mono hbw.size))).spots fx.spots.len).mono fun _ _ h => ⟨h.1, Later.of hb' h.2⟩
    subst ha has
    rw [hspot] at hcall
    unfold bookV at hcall
    have hlt2 : (k : Int) < y.uses.length := by omega
    have hk0 : (0 : Int) ≤ k := by omega
    have hj2 : (j : Int) < x.spots.length := by omega
    have hj0 : (0 : Int) ≤ j := by omega
    have y0 := i3.cell 0 rfl
    have y1 := i3.cell 1 rfl
    have y2 := i3.cell 2 rfl
    have y4 := i3.cell 3 rfl
    have y5 := i3.cell 4 rfl
    have hS : ∀ w', Below wr.heap.size wr w' → (w'.cell? ⟨w.heap.size, 0, none⟩ = some (.slice af x.foes.length cf) ∧ w'.cell? ⟨w.heap.size, 1, none⟩ = some (.slice (some ⟨bs, os, none⟩) x.spots.length cp) ∧ w'.cell? ⟨w.heap.size, 2, none⟩ = some (.slice av x.valves.length cv) ∧
     w'.cell? ⟨w.heap.size, 3, none⟩ = some (.slice aq x.parts.length cq) ∧ w'.cell? ⟨w.heap.size, 4, none⟩ = some (.int .i64 x.seen) ∧ w'.cell? ⟨w.heap.size + 1, 3, none⟩ = some (.slice (some ⟨b, o, none⟩) y.uses.length c3) ∧
     w'.cell? ⟨b, o + k * 3, none⟩ = some (.string (gu y.uses k).name) ∧ w'.cell? ⟨bs, os + j * 5, none⟩ = some (.string (gp x.spots j).name) ∧ w'.cell? ⟨bs, os + j * 5 + 1, none⟩ = some (.int .i64 (gp x.spots j).cap) ∧
     w'.cell? ⟨bs, os + j * 5 + 2, none⟩ = some (.int .i64 (gp x.spots j).least) ∧ w'.cell? ⟨bs, os + j * 5 + 3, none⟩ = some (.int .i64 (gp x.spots j).most) ∧ w'.cell? ⟨bs, os + j * 5 + 4, none⟩ = some (.slice m (gp x.spots j).may.length c) ∧ Below wr.heap.size wr w' ∧ wr.heap.size ≤ w'.heap.size) := fun w' hb' =>
     ⟨cell_later hb' y0, cell_later hb' y1, cell_later hb' y2, cell_later hb' y4, cell_later hb' y5, cell_later hb' y3, cell_later hb' hc0, cell_later hb' hd0, cell_later hb' hd1, cell_later hb' hd2, cell_later hb' hd3, cell_later hb' hd4, hb', hb'.size⟩
    go_wp2_with fail
    go_region_held3 (fun w' => (w'.cell? ⟨w.heap.size, 0, none⟩ = some (.slice af x.foes.length cf) ∧ w'.cell? ⟨w.heap.size, 1, none⟩ = some (.slice (some ⟨bs, os, none⟩) x.spots.length cp) ∧ w'.cell? ⟨w.heap.size, 2, none⟩ = some (.slice av x.valves.length cv) ∧
     w'.cell? ⟨w.heap.size, 3, none⟩ = some (.slice aq x.parts.length cq) ∧ w'.cell? ⟨w.heap.size, 4, none⟩ = some (.int .i64 x.seen) ∧ w'.cell? ⟨w.heap.size + 1, 3, none⟩ = some (.slice (some ⟨b, o, none⟩) y.uses.length c3) ∧
     w'.cell? ⟨b, o + k * 3, none⟩ = some (.string (gu y.uses k).name) ∧ w'.cell? ⟨bs, os + j * 5, none⟩ = some (.string (gp x.spots j).name) ∧ w'.cell? ⟨bs, os + j * 5 + 1, none⟩ = some (.int .i64 (gp x.spots j).cap) ∧
     w'.cell? ⟨bs, os + j * 5 + 2, none⟩ = some (.int .i64 (gp x.spots j).least) ∧ w'.cell? ⟨bs, os + j * 5 + 3, none⟩ = some (.int .i64 (gp x.spots j).most) ∧ w'.cell? ⟨bs, os + j * 5 + 4, none⟩ = some (.slice m (gp x.spots j).may.length c) ∧ Below wr.heap.size wr w' ∧ wr.heap.size ≤ w'.heap.size))
     ((refine hS _ ?_; repeat (first | assumption | exact Below.refl _ _ | refine Below.drew ?_ | refine Below.alloc ?_ (by (try simp); (try omega)) _ | refine Below.setCell ?_ (by (try simp); (try omega)) _)))
     (first | (go_at_call 130; refine (hcall _ ?_).mono ?_; (simp [*]); rintro e w' ⟨rfl, hb', hsz', hlat, hfro⟩; have z0 := hlat ⟨wr.heap.size, 0, none⟩ (.string { data := #[] }); have f0 := hfro ⟨wr.heap.size, 0, none⟩ (.string { data := #[] }); have z1 := hlat ⟨wr.heap.size, 1, none⟩ (.int .i64 0); have f1 := hfro ⟨wr.heap.size, 1, none⟩ (.int .i64 0); have z2 := hlat ⟨wr.heap.size, 2, none⟩ (.int .i64 0); have f2 := hfro ⟨wr.heap.size, 2, none⟩ (.int .i64 0); have z3 := hlat ⟨wr.heap.size, 3, none⟩ (.int .i64 0); have f3 := hfro ⟨wr.heap.size, 3, none⟩ (.int .i64 0); have z4 := hlat ⟨wr.heap.size, 4, none⟩ (.slice none 0 0); have f4 := hfro ⟨wr.heap.size, 4, none⟩ (.slice none 0 0); try simp at z0 z1 z2 z3 z4 f0 f1 f2 f3 f4))
    all_goals first
     | (have q := SpotBox.sets (s := gp x.spots j) (m := m) (c := c) z0 z1 z2 z3 z4
        have hbX := ((((hb'.setCell (p := ⟨wr.heap.size, 0, none⟩) (Nat.le_refl _) (.string (gp x.spots j).name)).setCell (p := ⟨wr.heap.size, 1, none⟩) (Nat.le_refl _) (.int .i64 (gp x.spots j).cap)).setCell (p := ⟨wr.heap.size, 2, none⟩) (Nat.le_refl _) (.int .i64 (gp x.spots j).least)).setCell (p := ⟨wr.heap.size, 3, none⟩) (Nat.le_refl _) (.int .i64 (gp x.spots j).most)).setCell (p := ⟨wr.heap.size, 4, none⟩) (Nat.le_refl _) (.slice m (gp x.spots j).may.length c)
        rename_i hHeld
        clear hHeld hlat hfro z0 z1 z2 z3 z4 f0 f1 f2 f3 f4 hb' hsz'
        generalize ((((w'.setCell ⟨wr.heap.size, 0, none⟩ (.string (gp x.spots j).name)).setCell ⟨wr.heap.size, 1, none⟩ (.int .i64 (gp x.spots j).cap)).setCell ⟨wr.heap.size, 2, none⟩ (.int .i64 (gp x.spots j).least)).setCell ⟨wr.heap.size, 3, none⟩ (.int .i64 (gp x.spots j).most)).setCell ⟨wr.heap.size, 4, none⟩ (.slice m (gp x.spots j).may.length c) = X at q hbX ⊢
        obtain ⟨B, hB⟩ : ∃ B, B = wr.heap.size := ⟨_, rfl⟩
        rw [← hB] at q ⊢
        clear hB)
     | (have q := SpotBox.new w' (gp x.spots j) m c
        have hbX := hb'.alloc hsz' (.cells #[.string (gp x.spots j).name, .int .i64 (gp x.spots j).cap, .int .i64 (gp x.spots j).least, .int .i64 (gp x.spots j).most, .slice m (gp x.spots j).may.length c] 72)
        rename_i hHeld
        clear hHeld hlat hfro z0 z1 z2 z3 z4 f0 f1 f2 f3 f4 hb' hsz'
        generalize w'.alloc (.cells #[.string (gp x.spots j).name, .int .i64 (gp x.spots j).cap, .int .i64 (gp x.spots j).least, .int .i64 (gp x.spots j).most, .slice m (gp x.spots j).may.length c] 72) = X at q hbX ⊢
        generalize w'.heap.size = B at q ⊢)
    all_goals
     clear hS hcall y0 y1 y2 y4 y5
     obtain ⟨p0, p1, p2, p3, p4⟩ := q
     have hpl := block_lt_of_cell p0
     dsimp only at hpl
     have hO := hbw.trans (hbX.mono hbw.size)
     have y3' := cell_later hbX y3
     have e0 := cell_later hbX hc0
     have e1 := cell_later hbX hc1
     have e2 := cell_later hbX hc2
     have t1 := (o3.later hbX).cell 1 rfl
     have ht1 := block_lt_of_cell t1
     dsimp only at ht1
     have HA : Hid (amtAt x y k = amtCode (gp x.spots j) y (gu y.uses k)) := (by unfold amtAt spotOf spotAtI; rw [hspot]; rfl : amtAt x y k = amtCode (gp x.spots j) y (gu y.uses k))
     clear hspot
     clear y3 hc0 hc1 hc2 hd0 hd1 hd2 hd3 hd4
     have hsz := Nat.le_trans hbw.size hbX.size
     have hbel1 := hbel.trans (hbX.mono hbel.size)
     have hsz1 := hbel1.size
     have HS : Hid (RowKit.Below w.heap.size w X ∧ w.heap.size ≤ X.heap.size) := ⟨hO, hsz⟩
     have HB : Hid (RowKit.Below ((w.alloc (.cells (bookL x af (some ⟨bs, os, none⟩) av aq cf cp cv cq).toArray 28)).alloc (.cells (wantL y a2 (some ⟨b, o, none⟩) a4 a5 c2 c3 c4 c5).toArray 38)).heap.size ((w.alloc (.cells (bookL x af (some ⟨bs, os, none⟩) av aq cf cp cv cq).toArray 28)).alloc (.cells (wantL y a2 (some ⟨b, o, none⟩) a4 a5 c2 c3 c4 c5).toArray 38)) X) := hbel1
     clear hsz hO hbel1 hsz1 hbel hbX hbw i3 o3
     have HR1 : Hid ((gu y.uses k).role = 1 ↔ ((gu y.uses k).role == 1) = true) := (by simp : (gu y.uses k).role = 1 ↔ ((gu y.uses k).role == 1) = true)
     have HR2 : Hid ((gu y.uses k).role = 2 ↔ ((gu y.uses k).role == 2) = true) := (by simp : (gu y.uses k).role = 2 ↔ ((gu y.uses k).role == 2) = true)
     have HK2 : Hid (y.kind = 2 ↔ (y.kind == 2) = true) := (by simp : y.kind = 2 ↔ (y.kind == 2) = true)
     cases r1 : (gu y.uses k).role == 1 <;> cases r2 : (gu y.uses k).role == 2 <;> cases k2 : y.kind == 2
     all_goals go_wp2
     all_goals first
      | (go_ret
         refine ⟨ret_int ?_, HS.out.1.alloc HS.out.2 _⟩
         first
          | exact (amounts_hit hall hlt (HA.out.trans (amt_9 (by have h1 := HR1.out; have h2 := HR2.out; have h3 := HK2.out; rw [r1] at h1; rw [r2] at h2; rw [k2] at h3; simp at h1 h2 h3; omega) (by have h1 := HR1.out; have h2 := HR2.out; have h3 := HK2.out; rw [r1] at h1; rw [r2] at h2; rw [k2] at h3; simp at h1 h2 h3; omega))) (by decide)).symm
          | exact (amounts_hit hall hlt (HA.out.trans (amt_10 (by have h1 := HR1.out; have h2 := HR2.out; have h3 := HK2.out; rw [r1] at h1; rw [r2] at h2; rw [k2] at h3; simp at h1 h2 h3; omega) (by have h1 := HR1.out; have h2 := HR2.out; have h3 := HK2.out; rw [r1] at h1; rw [r2] at h2; rw [k2] at h3; simp at h1 h2 h3; omega))) (by decide)).symm
          | exact (amounts_hit hall hlt (HA.out.trans (amt_11 (by have h1 := HR1.out; have h2 := HR2.out; have h3 := HK2.out; rw [r1] at h1; rw [r2] at h2; rw [k2] at h3; simp at h1 h2 h3; omega) (by have h1 := HR1.out; have h2 := HR2.out; have h3 := HK2.out; rw [r1] at h1; rw [r2] at h2; rw [k2] at h3; simp at h1 h2 h3; omega) (by have h1 := HR1.out; have h2 := HR2.out; have h3 := HK2.out; rw [r1] at h1; rw [r2] at h2; rw [k2] at h3; simp at h1 h2 h3; omega) (by have h1 := HR1.out; have h2 := HR2.out; have h3 := HK2.out; rw [r1] at h1; rw [r2] at h2; rw [k2] at h3; simp at h1 h2 h3; omega))) (by decide)).symm)
      | (go_roundw
         case rel => exact ⟨k + 1, by omega, by go_num, zerosTo_succ hall (HA.out.trans (amt_0 (by have h1 := HR1.out; have h2 := HR2.out; have h3 := HK2.out; rw [r1] at h1; rw [r2] at h2; rw [k2] at h3; simp at h1 h2 h3; omega) (by have h1 := HR1.out; have h2 := HR2.out; have h3 := HK2.out; rw [r1] at h1; rw [r2] at h2; rw [k2] at h3; simp at h1 h2 h3; omega) (by have h1 := HR1.out; have h2 := HR2.out; have h3 := HK2.out; rw [r1] at h1; rw [r2] at h2; rw [k2] at h3; simp at h1 h2 h3; omega))), HB.out.alloc HB.out.size _⟩
         case measure => simp [intOf]; omega)
  · have : k = y.uses.length := by omega
    subst this
    go_wp2
    go_ret
    exact ⟨ret_int (firstTo_zeros hall).symm, hbw⟩

end Go.Proofs.YtfmhkicncgccjaaGreat

