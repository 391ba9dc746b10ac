/- Joined: BkToC, BkToD, BkEq, BkS1, BkS2, BkS4, BkS5. -/
import Derived.Test.YtfmhkicncgccjaaGreatDoorPc04
/- What the law's own copying functions answer of lists of parts and of books. -/
namespace Go.Proofs.YtfmhkicncgccjaaGreatDoor
open Go.RowKit Go.Sort
set_option linter.unusedSimpArgs false
set_option linter.unusedVariables false

theorem RowAt.sets7k {w : World} {d n size : Nat} {f : Nat → Nat → Value} (h : RowAt w (some ⟨d, 0, none⟩) n size f) {b1 : Nat} (h1 : d ≠ b1) (o0 o1 o2 o3 o4 o5 o6 : Nat) (v0 v1 v2 v3 v4 v5 v6 : Value) :
    RowAt (((((((w.setCell ⟨b1, o0, none⟩ v0).setCell ⟨b1, o1, none⟩ v1).setCell ⟨b1, o2, none⟩ v2).setCell ⟨b1, o3, none⟩ v3).setCell ⟨b1, o4, none⟩ v4).setCell ⟨b1, o5, none⟩ v5).setCell ⟨b1, o6, none⟩ v6) (some ⟨d, 0, none⟩) n size f :=
  have g : ∀ b o, (some ⟨d, 0, none⟩ : Option Addr) = some ⟨b, o, none⟩ → b ≠ b1 := fun b o e => by cases e; exact h1
  ((((((h.setOther g v0).setOther g v1).setOther g v2).setOther g v3).setOther g v4).setOther g v5).setOther g v6

theorem WantIn.sets7k {w : World} {x : Want} {d2 d3 d4 d5 : Nat} (h : WantIn w x (some ⟨d2, 0, none⟩) (some ⟨d3, 0, none⟩) (some ⟨d4, 0, none⟩) (some ⟨d5, 0, none⟩)) {b1 : Nat} (h2 : d2 ≠ b1) (h3 : d3 ≠ b1) (h4 : d4 ≠ b1) (h5 : d5 ≠ b1) (o0 o1 o2 o3 o4 o5 o6 : Nat) (v0 v1 v2 v3 v4 v5 v6 : Value) :
    WantIn (((((((w.setCell ⟨b1, o0, none⟩ v0).setCell ⟨b1, o1, none⟩ v1).setCell ⟨b1, o2, none⟩ v2).setCell ⟨b1, o3, none⟩ v3).setCell ⟨b1, o4, none⟩ v4).setCell ⟨b1, o5, none⟩ v5).setCell ⟨b1, o6, none⟩ v6) x (some ⟨d2, 0, none⟩) (some ⟨d3, 0, none⟩) (some ⟨d4, 0, none⟩) (some ⟨d5, 0, none⟩) :=
  ⟨RowAt.sets7k h.stuffs h2 _ _ _ _ _ _ _ _ _ _ _ _ _ _, RowAt.sets7k h.uses h3 _ _ _ _ _ _ _ _ _ _ _ _ _ _, RowAt.sets7k h.opens h4 _ _ _ _ _ _ _ _ _ _ _ _ _ _, RowAt.sets7k h.shuts h5 _ _ _ _ _ _ _ _ _ _ _ _ _ _⟩

/-- How long a part's lists are, by their fields. -/
def partLen (p : Part) : Nat → Nat
  | 2 => p.want.stuffs.length
  | 3 => p.want.uses.length
  | 4 => p.want.opens.length
  | _ => p.want.shuts.length

set_option maxHeartbeats 1000000 in
theorem toClaimPartS_any (a : Option Addr) (cap : Nat) (us : List Part) (w : World) (hm : PartsAt w a us) (hroom : us.length ≤ 1048576) (hrooms : ∀ s ∈ us, WantRoom s.want) :
    Calls Tryz.prog 36 #[.slice a us.length cap] w fun e w' => (∃ b, e = .returned (.slice (some ⟨b, 0, none⟩) us.length us.length) ∧ w.heap.size ≤ b ∧ PartsFrom w.heap.size w' (some ⟨b, 0, none⟩) us) ∧ Below w.heap.size w w' := by
  have hmk := make_of (P := Tryz.prog) Tryz.underlying36 infoPart us.length (by omega) (by omega)
  simp only [Value.cells] at hmk
  go_enter Tryz.func36, Tryz.ntmps36
  go_wp2
  go_loopw [4] (fun i wr => ∃ (k : Nat) (g : Nat → Value) (D : Nat → Nat → Nat), k ≤ us.length ∧ i = .int .i64 k ∧ wr.rowIs w.heap.size 60 (us.length * 7) g ∧ (∀ j, j < k → ∀ c, c < 7 → g (j * 7 + c) = partCell (gq us j) (fun f => some ⟨D j f, 0, none⟩) (partLen (gq us j)) c) ∧
    (∀ j, j < k → (w.heap.size < D j 2 ∧ w.heap.size < D j 3 ∧ w.heap.size < D j 4 ∧ w.heap.size < D j 5) ∧ WantIn wr (gq us j).want (some ⟨D j 2, 0, none⟩) (some ⟨D j 3, 0, none⟩) (some ⟨D j 4, 0, none⟩) (some ⟨D j 5, 0, none⟩)) ∧ Below w.heap.size w wr) (fun i _ => us.length - (intOf i).toNat)
  case atStart =>
    exact ⟨0, _, fun _ _ => 0, Nat.zero_le _, rfl, rowIs_madeN w _ _ _, fun j hj => absurd hj (Nat.not_lt_zero _), fun j hj => absurd hj (Nat.not_lt_zero _), (Below.refl _ _).alloc (Nat.le_refl _) _⟩
  case round =>
    obtain ⟨k, g, D, hk, rfl, hrow, hg, hD, hbel⟩ := hrel
    have HG : Hid (∀ j, j < k → ∀ c, c < 7 → g (j * 7 + c) = partCell (gq us j) (fun f => some ⟨D j f, 0, none⟩) (partLen (gq us j)) c) := hg
    clear hmk hg
    by_cases hlt : k < us.length
    · obtain ⟨b, o, a2, a3, a4, a5, c2, c3, c4, c5, ha, hb, hc0, hc1, hc2, hc3, hc4, hc5, hc6, hst⟩ := (hm.later hbel).at hlt
      subst ha
      go_wp2_with fail
      refine (toClaimPart_any (gq us k) a2 a3 a4 a5 c2 c3 c4 c5 _ hst (hrooms _ (gq_mem hlt))).mono ?_
      rintro e w1 ⟨⟨d2, d3, d4, d5, rfl, ⟨hd2, hd3, hd4, hd5⟩, st⟩, hb1⟩
      have hrow1 : w1.rowIs w.heap.size 60 (us.length * 7) g := hrow.of_block (hb1.block _ hrow.lt)
      have hq0 := hrow1.cell (i := k * 7) (by omega)
      have hf0 := hrow1.frozen (k * 7)
      have hq1 := hrow1.cell (i := k * 7 + 1) (by omega)
      have hf1 := hrow1.frozen (k * 7 + 1)
      have hq2 := hrow1.cell (i := k * 7 + 2) (by omega)
      have hf2 := hrow1.frozen (k * 7 + 2)
      have hq3 := hrow1.cell (i := k * 7 + 3) (by omega)
      have hf3 := hrow1.frozen (k * 7 + 3)
      have hq4 := hrow1.cell (i := k * 7 + 4) (by omega)
      have hf4 := hrow1.frozen (k * 7 + 4)
      have hq5 := hrow1.cell (i := k * 7 + 5) (by omega)
      have hf5 := hrow1.frozen (k * 7 + 5)
      have hq6 := hrow1.cell (i := k * 7 + 6) (by omega)
      have hf6 := hrow1.frozen (k * 7 + 6)
      have hsz := hbel.size
      have HD2 : Hid (w.heap.size < d2 ∧ w.heap.size < d3 ∧ w.heap.size < d4 ∧ w.heap.size < d5) := ⟨by omega, by omega, by omega, by omega⟩
      clear hsz hd2 hd3 hd4 hd5
      unfold partV
      clear hc0 hc1 hc2 hc3 hc4 hc5 hc6
      go_wp2
      have hbel1 : Below w.heap.size w w1 := hbel.trans (hb1.mono hbel.size)
      obtain ⟨hd2, hd3, hd4, hd5⟩ := HD2.out
      go_roundw
      case rel =>
        refine ⟨k + 1, _, fun j f => if j = k then (if f = 2 then d2 else if f = 3 then d3 else if f = 4 then d4 else d5) else D j f, by omega, by go_num, ((((((hrow1.set (k * 7) _).set (k * 7 + 1) _).set (k * 7 + 2) _).set (k * 7 + 3) _).set (k * 7 + 4) _).set (k * 7 + 5) _).set (k * 7 + 6) _, ?_, ?_,
          ((((((hbel1.setCell (Nat.le_refl _) _).setCell (Nat.le_refl _) _).setCell (Nat.le_refl _) _).setCell (Nat.le_refl _) _).setCell (Nat.le_refl _) _).setCell (Nat.le_refl _) _).setCell (Nat.le_refl _) _⟩
        · intro j hj c hc
          by_cases e : j = k
          · subst e
            match c, hc with
            | 0, _ => simp [partCell, partLen]
            | 1, _ => simp [partCell, partLen]
            | 2, _ => simp [partCell, partLen]
            | 3, _ => simp [partCell, partLen]
            | 4, _ => simp [partCell, partLen]
            | 5, _ => simp [partCell, partLen]
            | 6, _ => simp [partCell, partLen]
          · have := HG.out j (by omega) c hc
            dsimp only
            simp only [if_neg e]
            rw [← this]
            rw [if_neg (by omega), if_neg (by omega), if_neg (by omega), if_neg (by omega), if_neg (by omega), if_neg (by omega), if_neg (by omega)]
        · intro j hj
          by_cases e : j = k
          · subst e
            simp only [if_true]
            exact ⟨⟨hd2, hd3, hd4, hd5⟩, WantIn.sets7k st (Nat.ne_of_gt hd2) (Nat.ne_of_gt hd3) (Nat.ne_of_gt hd4) (Nat.ne_of_gt hd5) _ _ _ _ _ _ _ _ _ _ _ _ _ _⟩
          · simp only [if_neg e]
            obtain ⟨⟨h2, h3, h4, h5⟩, h6⟩ := hD j (by omega)
            exact ⟨⟨h2, h3, h4, h5⟩, WantIn.sets7k (h6.later hb1) (Nat.ne_of_gt h2) (Nat.ne_of_gt h3) (Nat.ne_of_gt h4) (Nat.ne_of_gt h5) _ _ _ _ _ _ _ _ _ _ _ _ _ _⟩
      case measure => simp [intOf]; omega
    · have : k = us.length := by omega
      subst this
      go_wp2
      go_ret
      refine ⟨⟨w.heap.size, rfl, Nat.le_refl _, fun b o h => by (cases h; exact Nat.le_refl _), fun j f => some ⟨D j f, 0, none⟩, fun j => partLen (gq us j), fun k hk => ⟨w.heap.size, 0, rfl, hrow.lt, fun j hj => ?_⟩, fun j hj => ⟨(hD j hj).2, fun b o h => by (cases h; exact Nat.le_of_lt (hD j hj).1.1), fun b o h => by (cases h; exact Nat.le_of_lt (hD j hj).1.2.1), fun b o h => by (cases h; exact Nat.le_of_lt (hD j hj).1.2.2.1), fun b o h => by (cases h; exact Nat.le_of_lt (hD j hj).1.2.2.2)⟩⟩, hbel⟩
      have := hrow.cell (i := k * 7 + j) (by omega)
      rw [HG.out k hk j hj] at this
      simpa using this

end Go.Proofs.YtfmhkicncgccjaaGreatDoor

/- What the law's own toClaimBook answers. -/
namespace Go.Proofs.YtfmhkicncgccjaaGreatDoor
open Go.RowKit Go.Sort
set_option linter.unusedSimpArgs false
set_option linter.unusedVariables false

/-- A book, all of whose memory lies from block B on. -/
structure BookFrom (B : Nat) (w : World) (x : Book) (af ap av aq : Option Addr) : Prop where
  foes : FoesAt w af x.foes ∧ AddrFrom B af
  spots : SpotsFrom B w ap x.spots
  valves : StrsAt w av x.valves ∧ AddrFrom B av
  parts : PartsFrom B w aq x.parts

theorem BookFrom.in_ {B : Nat} {w : World} {x : Book} {af ap av aq : Option Addr} (h : BookFrom B w x af ap av aq) : BookIn w x af ap av aq := ⟨h.foes.1, h.spots.at_, h.valves.1, h.parts.at_⟩
theorem BookFrom.setLow {B : Nat} {w : World} {x : Book} {af ap av aq : Option Addr} (h : BookFrom B w x af ap av aq) {p : Addr} (hp : p.block < B) (v : Value) : BookFrom B (w.setCell p v) x af ap av aq :=
  ⟨⟨RowAt.setLow h.foes.1 h.foes.2 hp v, h.foes.2⟩, h.spots.setLow hp v, ⟨RowAt.setLow h.valves.1 h.valves.2 hp v, h.valves.2⟩, h.parts.setLow hp v⟩

theorem addr_mono {B B' : Nat} {a : Option Addr} (h : AddrFrom B a) (hb : B' ≤ B) : AddrFrom B' a := fun b o e => Nat.le_trans hb (h b o e)
theorem from_monoS {B B' : Nat} {w : World} {a : Option Addr} {ps : List Spot} (h : SpotsFrom B w a ps) (hb : B' ≤ B) : SpotsFrom B' w a ps := by
  obtain ⟨h0, m, c, h1, h2, h3⟩ := h
  exact ⟨addr_mono h0 hb, m, c, h1, fun k hk => ⟨(h2 k hk).1, addr_mono (h2 k hk).2 hb⟩, h3⟩
theorem from_monoP {B B' : Nat} {w : World} {a : Option Addr} {ps : List Part} (h : PartsFrom B w a ps) (hb : B' ≤ B) : PartsFrom B' w a ps := by
  obtain ⟨h0, m, c, h1, h2⟩ := h
  refine ⟨addr_mono h0 hb, m, c, h1, fun k hk => ?_⟩
  obtain ⟨k0, g1, g2, g3, g4⟩ := h2 k hk
  exact ⟨k0, addr_mono g1 hb, addr_mono g2 hb, addr_mono g3 hb, addr_mono g4 hb⟩
theorem from_monoB {B B' : Nat} {w : World} {x : Book} {af ap av aq : Option Addr} (h : BookFrom B w x af ap av aq) (hb : B' ≤ B) : BookFrom B' w x af ap av aq :=
  ⟨⟨h.foes.1, addr_mono h.foes.2 hb⟩, from_monoS h.spots hb, ⟨h.valves.1, addr_mono h.valves.2 hb⟩, from_monoP h.parts hb⟩

set_option maxHeartbeats 2000000 in
theorem toClaimBook_any (x : Book) (af ap av aq : Option Addr) (cf cp cv cq : Nat) (w : World) (hin : BookIn w x af ap av aq) (hr : BookRoom x) :
    Calls Tryz.prog 8 #[bookV x af ap av aq cf cp cv cq] w fun e w' => (∃ b0 b1 b2 b3, e = .returned (bookV x (some ⟨b0, 0, none⟩) (some ⟨b1, 0, none⟩) (some ⟨b2, 0, none⟩) (some ⟨b3, 0, none⟩) x.foes.length x.spots.length x.valves.length x.parts.length) ∧
      BookFrom w.heap.size w' x (some ⟨b0, 0, none⟩) (some ⟨b1, 0, none⟩) (some ⟨b2, 0, none⟩) (some ⟨b3, 0, none⟩)) ∧ Below w.heap.size w w' := by
  unfold bookV
  go_enter Tryz.func8, Tryz.ntmps8
  go_wp2_with fail
  have b0 : Below w.heap.size w (((w.alloc (.cells #[.slice af x.foes.length cf, .slice ap x.spots.length cp, .slice av x.valves.length cv, .slice aq x.parts.length cq, .int .i64 x.seen] 27)).alloc (.cells #[.slice none 0 0, .slice none 0 0, .slice none 0 0, .slice none 0 0, .int .i64 0] 38)).alloc (.cells #[.slice none 0 0, .slice none 0 0, .slice none 0 0, .slice none 0 0, .int .i64 0] 38)) :=
    (((Below.refl _ _).alloc (Nat.le_refl _) _).alloc (by simp) _).alloc (by simp; omega) _
  have i0 : Row (((w.alloc (.cells #[.slice af x.foes.length cf, .slice ap x.spots.length cp, .slice av x.valves.length cv, .slice aq x.parts.length cq, .int .i64 x.seen] 27)).alloc (.cells #[.slice none 0 0, .slice none 0 0, .slice none 0 0, .slice none 0 0, .int .i64 0] 38)).alloc (.cells #[.slice none 0 0, .slice none 0 0, .slice none 0 0, .slice none 0 0, .int .i64 0] 38)) w.heap.size 27 [.slice af x.foes.length cf, .slice ap x.spots.length cp, .slice av x.valves.length cv, .slice aq x.parts.length cq, .int .i64 x.seen] := ((Row.new _ _ _).alloc _).alloc _
  have z0 : Row (((w.alloc (.cells #[.slice af x.foes.length cf, .slice ap x.spots.length cp, .slice av x.valves.length cv, .slice aq x.parts.length cq, .int .i64 x.seen] 27)).alloc (.cells #[.slice none 0 0, .slice none 0 0, .slice none 0 0, .slice none 0 0, .int .i64 0] 38)).alloc (.cells #[.slice none 0 0, .slice none 0 0, .slice none 0 0, .slice none 0 0, .int .i64 0] 38)) (w.heap.size + 1) 38 [.slice none 0 0, .slice none 0 0, .slice none 0 0, .slice none 0 0, .int .i64 0] := by
    have := (Row.new (w.alloc (.cells #[.slice af x.foes.length cf, .slice ap x.spots.length cp, .slice av x.valves.length cv, .slice aq x.parts.length cq, .int .i64 x.seen] 27)) 38 [.slice none 0 0, .slice none 0 0, .slice none 0 0, .slice none 0 0, .int .i64 0]).alloc (.cells #[.slice none 0 0, .slice none 0 0, .slice none 0 0, .slice none 0 0, .int .i64 0] 38)
    simpa using this
  have o0 : Row (((w.alloc (.cells #[.slice af x.foes.length cf, .slice ap x.spots.length cp, .slice av x.valves.length cv, .slice aq x.parts.length cq, .int .i64 x.seen] 27)).alloc (.cells #[.slice none 0 0, .slice none 0 0, .slice none 0 0, .slice none 0 0, .int .i64 0] 38)).alloc (.cells #[.slice none 0 0, .slice none 0 0, .slice none 0 0, .slice none 0 0, .int .i64 0] 38)) (w.heap.size + 1 + 1) 38 [.slice none 0 0, .slice none 0 0, .slice none 0 0, .slice none 0 0, .int .i64 0] := by
    have := Row.new ((w.alloc (.cells #[.slice af x.foes.length cf, .slice ap x.spots.length cp, .slice av x.valves.length cv, .slice aq x.parts.length cq, .int .i64 x.seen] 27)).alloc (.cells #[.slice none 0 0, .slice none 0 0, .slice none 0 0, .slice none 0 0, .int .i64 0] 38)) 38 [.slice none 0 0, .slice none 0 0, .slice none 0 0, .slice none 0 0, .int .i64 0]
    simpa using this
  have hs0 : w.heap.size + 3 ≤ (((w.alloc (.cells #[.slice af x.foes.length cf, .slice ap x.spots.length cp, .slice av x.valves.length cv, .slice aq x.parts.length cq, .int .i64 x.seen] 27)).alloc (.cells #[.slice none 0 0, .slice none 0 0, .slice none 0 0, .slice none 0 0, .int .i64 0] 38)).alloc (.cells #[.slice none 0 0, .slice none 0 0, .slice none 0 0, .slice none 0 0, .int .i64 0] 38)).heap.size := by simp
  have hne : w.heap.size ≠ w.heap.size + 1 + 1 := by omega
  refine (toClaimFoeS_any af cf x.foes _ (hin.later b0).foes hr.foes).mono ?_
  rintro e w1 ⟨⟨d0, rfl, hd0, t0⟩, hb⟩
  have hs1 := Nat.le_trans hs0 hb.size
  have hd0' : w.heap.size + 1 + 1 < d0 := by omega
  have b1 := b0.trans (hb.mono b0.size)
  have i1 := i0.later hb
  have z1 := z0.later hb
  have o1 := o0.later hb
  clear b0 i0 z0 o0 hb hs0 hd0
  have q1 := i1.cell 1 rfl
  have f0 := o1.frozen 0
  have g0 := o1.cell 0 rfl
  go_wp2_with fail
  have b1' := b1.setCell (p := ⟨w.heap.size + 1 + 1, 0, none⟩) (by simp; omega) (.slice (some ⟨d0, 0, none⟩) x.foes.length x.foes.length)
  have i1' := i1.other (a := ⟨w.heap.size + 1 + 1, 0, none⟩) hne (.slice (some ⟨d0, 0, none⟩) x.foes.length x.foes.length)
  have z1' := z1.other (a := ⟨w.heap.size + 1 + 1, 0, none⟩) (by simp) (.slice (some ⟨d0, 0, none⟩) x.foes.length x.foes.length)
  have o1' := o1.set 0 (.slice (some ⟨d0, 0, none⟩) x.foes.length x.foes.length)
  have t0' := RowAt.setOther t0 (p := ⟨w.heap.size + 1 + 1, 0, none⟩) (fun b o h => by cases h; exact Nat.ne_of_gt hd0') (.slice (some ⟨d0, 0, none⟩) x.foes.length x.foes.length)
  have hs1' : w.heap.size + 3 ≤ (w1.setCell ⟨w.heap.size + 1 + 1, 0, none⟩ (.slice (some ⟨d0, 0, none⟩) x.foes.length x.foes.length)).heap.size := by rw [Go.Deep.nblk_setCell]; exact hs1
  refine (toClaimSpotS_any ap cp x.spots _ (hin.later b1').spots hr.spots hr.mays).mono ?_
  clear q1 f0 g0
  rintro e w2 ⟨⟨d1, rfl, hd1, t1⟩, hb⟩
  have hd1' : w.heap.size + 1 + 1 < d1 := by omega
  have t1 : SpotsFrom (w.heap.size + 3) w2 (some ⟨d1, 0, none⟩) x.spots := from_monoS t1 hs1'
  have hs2 := Nat.le_trans hs1' hb.size
  have b2 := b1'.trans (hb.mono b1'.size)
  have i2 := i1'.later hb
  have z2 := z1'.later hb
  have o2 := o1'.later hb
  have t0 := RowAt.later t0' hb
  clear b1 i1 z1 o1 b1' i1' z1' o1' hb hs1 hs1' hd1 t0'
  have q2 := i2.cell 2 rfl
  have f1 := o2.frozen 1
  have g1 := o2.cell 1 rfl
  go_wp2_with fail
  have b2' := b2.setCell (p := ⟨w.heap.size + 1 + 1, 1, none⟩) (by simp; omega) (.slice (some ⟨d1, 0, none⟩) x.spots.length x.spots.length)
  have i2' := i2.other (a := ⟨w.heap.size + 1 + 1, 1, none⟩) hne (.slice (some ⟨d1, 0, none⟩) x.spots.length x.spots.length)
  have z2' := z2.other (a := ⟨w.heap.size + 1 + 1, 1, none⟩) (by simp) (.slice (some ⟨d1, 0, none⟩) x.spots.length x.spots.length)
  have o2' := o2.set 1 (.slice (some ⟨d1, 0, none⟩) x.spots.length x.spots.length)
  have t0' := RowAt.setOther t0 (p := ⟨w.heap.size + 1 + 1, 1, none⟩) (fun b o h => by cases h; exact Nat.ne_of_gt hd0') (.slice (some ⟨d1, 0, none⟩) x.spots.length x.spots.length)
  have t1' := t1.setLow (p := ⟨w.heap.size + 1 + 1, 1, none⟩) (by simp) (.slice (some ⟨d1, 0, none⟩) x.spots.length x.spots.length)
  have hs2' : w.heap.size + 3 ≤ (w2.setCell ⟨w.heap.size + 1 + 1, 1, none⟩ (.slice (some ⟨d1, 0, none⟩) x.spots.length x.spots.length)).heap.size := by rw [Go.Deep.nblk_setCell]; exact hs2
  refine (toStringS_any av cv x.valves _ (hin.later b2').valves hr.valves).mono ?_
  clear q2 f1 g1
  rintro e w3 ⟨⟨d2, rfl, hd2, t2⟩, hb⟩
  have hd2' : w.heap.size + 1 + 1 < d2 := by omega
  have hs3 := Nat.le_trans hs2' hb.size
  have b3 := b2'.trans (hb.mono b2'.size)
  have i3 := i2'.later hb
  have z3 := z2'.later hb
  have o3 := o2'.later hb
  have t0 := RowAt.later t0' hb
  have t1 := t1'.later hb
  clear b2 i2 z2 o2 b2' i2' z2' o2' hb hs2 hs2' hd2 t0' t1'
  have q3 := i3.cell 3 rfl
  have f2 := o3.frozen 2
  have g2 := o3.cell 2 rfl
  go_wp2_with fail
  have b3' := b3.setCell (p := ⟨w.heap.size + 1 + 1, 2, none⟩) (by simp; omega) (.slice (some ⟨d2, 0, none⟩) x.valves.length x.valves.length)
  have i3' := i3.other (a := ⟨w.heap.size + 1 + 1, 2, none⟩) hne (.slice (some ⟨d2, 0, none⟩) x.valves.length x.valves.length)
  have z3' := z3.other (a := ⟨w.heap.size + 1 + 1, 2, none⟩) (by simp) (.slice (some ⟨d2, 0, none⟩) x.valves.length x.valves.length)
  have o3' := o3.set 2 (.slice (some ⟨d2, 0, none⟩) x.valves.length x.valves.length)
  have t0' := RowAt.setOther t0 (p := ⟨w.heap.size + 1 + 1, 2, none⟩) (fun b o h => by cases h; exact Nat.ne_of_gt hd0') (.slice (some ⟨d2, 0, none⟩) x.valves.length x.valves.length)
  have t1' := t1.setLow (p := ⟨w.heap.size + 1 + 1, 2, none⟩) (by simp) (.slice (some ⟨d2, 0, none⟩) x.valves.length x.valves.length)
  have t2' := RowAt.setOther t2 (p := ⟨w.heap.size + 1 + 1, 2, none⟩) (fun b o h => by cases h; exact Nat.ne_of_gt hd2') (.slice (some ⟨d2, 0, none⟩) x.valves.length x.valves.length)
  have hs3' : w.heap.size + 3 ≤ (w3.setCell ⟨w.heap.size + 1 + 1, 2, none⟩ (.slice (some ⟨d2, 0, none⟩) x.valves.length x.valves.length)).heap.size := by rw [Go.Deep.nblk_setCell]; exact hs3
  refine (toClaimPartS_any aq cq x.parts _ (hin.later b3').parts hr.parts hr.wants).mono ?_
  clear q3 f2 g2
  rintro e w4 ⟨⟨d3, rfl, hd3, t3⟩, hb⟩
  have hd3' : w.heap.size + 1 + 1 < d3 := by omega
  have t3 : PartsFrom (w.heap.size + 3) w4 (some ⟨d3, 0, none⟩) x.parts := from_monoP t3 hs3'
  have hs4 := Nat.le_trans hs3' hb.size
  have b4 := b3'.trans (hb.mono b3'.size)
  have i4 := i3'.later hb
  have z4 := z3'.later hb
  have o4 := o3'.later hb
  have t0 := RowAt.later t0' hb
  have t1 := t1'.later hb
  have t2 := RowAt.later t2' hb
  clear b3 i3 z3 o3 b3' i3' z3' o3' hb hs3 hs3' hd3 t0' t1' t2'
  have q4 := i4.cell 4 rfl
  have f3 := o4.frozen 3
  have f4 := o4.frozen 4
  have g0 := o4.cell 0 rfl
  have r0 := z4.cell 0 rfl
  have k0 := z4.frozen 0
  have g1 := o4.cell 1 rfl
  have r1 := z4.cell 1 rfl
  have k1 := z4.frozen 1
  have g2 := o4.cell 2 rfl
  have r2 := z4.cell 2 rfl
  have k2 := z4.frozen 2
  have g3 := o4.cell 3 rfl
  have r3 := z4.cell 3 rfl
  have k3 := z4.frozen 3
  have g4 := o4.cell 4 rfl
  have r4 := z4.cell 4 rfl
  have k4 := z4.frozen 4
  have hne2 : w.heap.size + 1 ≠ w.heap.size + 1 + 1 := by omega
  have base : BookFrom (w.heap.size + 3) w4 x (some ⟨d0, 0, none⟩) (some ⟨d1, 0, none⟩) (some ⟨d2, 0, none⟩) (some ⟨d3, 0, none⟩) :=
    ⟨⟨t0, fun b o h => by cases h; omega⟩, t1, ⟨t2, fun b o h => by cases h; omega⟩, t3⟩
  clear t0 t1 t2 t3
  go_wp2
  refine bodyPost_ret (v := .agg #[.slice (some ⟨d0, 0, none⟩) x.foes.length x.foes.length, .slice (some ⟨d1, 0, none⟩) x.spots.length x.spots.length, .slice (some ⟨d2, 0, none⟩) x.valves.length x.valves.length, .slice (some ⟨d3, 0, none⟩) x.parts.length x.parts.length, .int .i64 x.seen])
    (by simp [results, Tryz.results8, go_sem, r0, r1, r2, r3, r4]) rfl ⟨⟨d0, d1, d2, d3, rfl, from_monoB (((((((base.setLow (p := ⟨w.heap.size + 1 + 1, 3, none⟩) (by simp) _).setLow (p := ⟨w.heap.size + 1 + 1, 4, none⟩) (by simp) _).setLow (p := ⟨w.heap.size + 1, 0, none⟩) (by simp) _).setLow (p := ⟨w.heap.size + 1, 1, none⟩) (by simp) _).setLow (p := ⟨w.heap.size + 1, 2, none⟩) (by simp) _).setLow (p := ⟨w.heap.size + 1, 3, none⟩) (by simp) _).setLow (p := ⟨w.heap.size + 1, 4, none⟩) (by simp) _) (by omega)⟩, ?_⟩
  exact ((((((b4.setCell (by simp; omega) _).setCell (by simp; omega) _).setCell (by simp) _).setCell (by simp) _).setCell (by simp) _).setCell (by simp) _).setCell (by simp) _

end Go.Proofs.YtfmhkicncgccjaaGreatDoor

/- What the law's own comparing functions answer of two copies of one book. -/
namespace Go.Proofs.YtfmhkicncgccjaaGreatDoor
open Go.RowKit Go.Sort
set_option linter.unusedSimpArgs false
set_option linter.unusedVariables false

set_option maxHeartbeats 400000 in
theorem eqClaimFoe_any (u : Foe) (w : World) :
    Calls Tryz.prog 82 #[foeV u, foeV u] w fun e w' => e = .returned (.bool true) ∧ Below w.heap.size w w' := by
  unfold foeV
  have h1 : (u.a.toList == u.a.toList) = true := by simp
  have h2 : (u.b.toList == u.b.toList) = true := by simp
  go_enter Tryz.func82, Tryz.ntmps82
  go_wp2
  go_ret
  exact ⟨rfl, ((Below.refl _ _).alloc (Nat.le_refl _) _).alloc (by simp) _⟩

set_option maxHeartbeats 800000 in
theorem eqClaimSpot_any (s : Spot) (m m' : Option Addr) (c c' : Nat) (w : World) (h : StrsAt w m s.may) (h' : StrsAt w m' s.may) (hl : s.may.length ≤ maxLen) :
    Calls Tryz.prog 83 #[spotV s m c, spotV s m' c'] w fun e w' => e = .returned (.bool true) ∧ Below w.heap.size w w' := by
  unfold spotV
  have h1 : (s.name.toList == s.name.toList) = true := by simp
  have h2 : (s.cap != s.cap) = false := by simp
  have h3 : (s.least != s.least) = false := by simp
  have h4 : (s.most != s.most) = false := by simp
  have b0 : Below w.heap.size w ((w.alloc (.cells #[.string s.name, .int .i64 s.cap, .int .i64 s.least, .int .i64 s.most, .slice m s.may.length c] 99)).alloc (.cells #[.string s.name, .int .i64 s.cap, .int .i64 s.least, .int .i64 s.most, .slice m' s.may.length c'] 99)) :=
    ((Below.refl _ _).alloc (Nat.le_refl _) _).alloc (by simp) _
  go_enter Tryz.func83, Tryz.ntmps83
  go_wp2_with fail
  refine (eqStringS_any m m' c c' s.may s.may _ (h.later b0) (h'.later b0) hl).mono ?_
  rintro e w1 ⟨rfl, hb⟩
  rw [eqSS_self]
  go_wp2
  go_ret
  exact ⟨rfl, b0.trans (hb.mono b0.size)⟩

set_option maxHeartbeats 800000 in
theorem eqClaimPart_any (p : Part) (a2 a3 a4 a5 : Option Addr) (c2 c3 c4 c5 : Nat) (e2 e3 e4 e5 : Option Addr) (d2 d3 d4 d5 : Nat) (w : World) (hin : WantIn w p.want a2 a3 a4 a5) (hie : WantIn w p.want e2 e3 e4 e5) (hf : WantFit p.want) :
    Calls Tryz.prog 84 #[partV p a2 a3 a4 a5 c2 c3 c4 c5, partV p e2 e3 e4 e5 d2 d3 d4 d5] w fun e w' => e = .returned (.bool true) ∧ Below w.heap.size w w' := by
  unfold partV
  have h1 : (p.stopped != p.stopped) = false := by simp
  have b0 : Below w.heap.size w ((w.alloc (.cells #[.int .i64 p.want.number, .int .i64 p.want.kind, .slice a2 p.want.stuffs.length c2, .slice a3 p.want.uses.length c3, .slice a4 p.want.opens.length c4, .slice a5 p.want.shuts.length c5, .bool p.stopped] 60)).alloc (.cells #[.int .i64 p.want.number, .int .i64 p.want.kind, .slice e2 p.want.stuffs.length d2, .slice e3 p.want.uses.length d3, .slice e4 p.want.opens.length d4, .slice e5 p.want.shuts.length d5, .bool p.stopped] 60)) :=
    ((Below.refl _ _).alloc (Nat.le_refl _) _).alloc (by simp) _
  have i0 := (Row.new w 60 [.int .i64 p.want.number, .int .i64 p.want.kind, .slice a2 p.want.stuffs.length c2, .slice a3 p.want.uses.length c3, .slice a4 p.want.opens.length c4, .slice a5 p.want.shuts.length c5, .bool p.stopped]).alloc (.cells #[.int .i64 p.want.number, .int .i64 p.want.kind, .slice e2 p.want.stuffs.length d2, .slice e3 p.want.uses.length d3, .slice e4 p.want.opens.length d4, .slice e5 p.want.shuts.length d5, .bool p.stopped] 60)
  have o0 := Row.new (w.alloc (.cells #[.int .i64 p.want.number, .int .i64 p.want.kind, .slice a2 p.want.stuffs.length c2, .slice a3 p.want.uses.length c3, .slice a4 p.want.opens.length c4, .slice a5 p.want.shuts.length c5, .bool p.stopped] 60)) 60 [.int .i64 p.want.number, .int .i64 p.want.kind, .slice e2 p.want.stuffs.length d2, .slice e3 p.want.uses.length d3, .slice e4 p.want.opens.length d4, .slice e5 p.want.shuts.length d5, .bool p.stopped]
  have hsz : (w.alloc (.cells #[.int .i64 p.want.number, .int .i64 p.want.kind, .slice a2 p.want.stuffs.length c2, .slice a3 p.want.uses.length c3, .slice a4 p.want.opens.length c4, .slice a5 p.want.shuts.length c5, .bool p.stopped] 60)).heap.size = w.heap.size + 1 := by simp
  rw [hsz] at o0
  clear hsz
  go_enter Tryz.func84, Tryz.ntmps84
  go_wp2_with fail
  refine (eqClaimWant_any p.want a2 a3 a4 a5 c2 c3 c4 c5 e2 e3 e4 e5 d2 d3 d4 d5 _ (hin.later b0) (hie.later b0) hf).mono ?_
  rintro e w1 ⟨rfl, hb⟩
  have q6 := (i0.later hb).cell 6 rfl
  have r6 := (o0.later hb).cell 6 rfl
  clear i0 o0
  go_wp2
  go_ret
  exact ⟨rfl, b0.trans (hb.mono b0.size)⟩

set_option maxHeartbeats 1000000 in
theorem eqClaimFoeS_any (a b : Option Addr) (ca cb : Nat) (xs : List Foe) (w : World) (hx : FoesAt w a xs) (hy : FoesAt w b xs) (hf : FoesFit xs) :
    Calls Tryz.prog 40 #[.slice a xs.length ca, .slice b xs.length cb] w fun e w' => e = .returned (.bool true) ∧ Below w.heap.size w w' := by
  have lx := hf.len
  unfold maxLen at lx
  have hl1 : ((xs.length : Int) != (xs.length : Int)) = false := by simp
  go_enter Tryz.func40, Tryz.ntmps40
  go_wp2
  go_loopw [5] (fun i wr => ∃ (k : Nat), k ≤ xs.length ∧ i = .int .i64 k ∧ Below w.heap.size w wr) (fun i _ => xs.length - (intOf i).toNat)
  case atStart => exact ⟨0, Nat.zero_le _, rfl, Below.refl _ _⟩
  case round wr =>
    obtain ⟨k, hk, rfl, hbel⟩ := hrel
    clear hl1
    by_cases hlt : k < xs.length
    · obtain ⟨b1, o1, ha1, hb1, hc0, hc1⟩ := (hx.later hbel).at hlt
      obtain ⟨b2, o2, ha2, hb2, he0, he1⟩ := (hy.later hbel).at hlt
      have hfit := hf.names _ (gf_mem hlt)
      subst ha1 ha2
      have hlt2 : (k : Int) < xs.length := by omega
      have r0 := cell_regrown hc0
      have s0 := cell_regrown he0
      have r1 := cell_regrown hc1
      have s1 := cell_regrown he1
      have hcall := fun d os => Calls.regrown_of (w := wr) (eqClaimFoe_any (gf xs k) (grow (redrawn wr d) os))
      unfold foeV at hcall
      clear hc0 hc1 he0 he1
      go_wp2
      refine wp_region_quiet_below (by kernel_rfl) (by kernel_rfl) ?_
      repeat (quiet_step (exact hcall _ _))
      refine wpQuiet_nil ?_
      intro w1 hw'
      obtain ⟨⟨dq, osq⟩, hw''⟩ := hw'
      have hbel1 : Below w.heap.size w w1 := hbel.trans ((hw'' ▸ below_regrown wr dq osq).mono hbel.size)
      clear hw'' hcall r0 r1 s0 s1
      go_wp2
      go_roundw
      case rel => exact ⟨k + 1, by omega, by go_num, hbel1⟩
      case measure => simp [intOf]; omega
    · go_wp2
      go_ret
      exact ⟨rfl, hbel⟩

set_option maxHeartbeats 1000000 in
theorem eqClaimSpotS_any (a b : Option Addr) (ca cb : Nat) (xs : List Spot) (w : World) (hx : SpotsAt w a xs) (hy : SpotsAt w b xs) (hf : SpotsFit xs) :
    Calls Tryz.prog 41 #[.slice a xs.length ca, .slice b xs.length cb] w fun e w' => e = .returned (.bool true) ∧ Below w.heap.size w w' := by
  have lx := hf.len
  unfold maxLen at lx
  have hl1 : ((xs.length : Int) != (xs.length : Int)) = false := by simp
  go_enter Tryz.func41, Tryz.ntmps41
  go_wp2
  go_loopw [5] (fun i wr => ∃ (k : Nat), k ≤ xs.length ∧ i = .int .i64 k ∧ Below w.heap.size w wr) (fun i _ => xs.length - (intOf i).toNat)
  case atStart => exact ⟨0, Nat.zero_le _, rfl, Below.refl _ _⟩
  case round wr =>
    obtain ⟨k, hk, rfl, hbel⟩ := hrel
    clear hl1
    by_cases hlt : k < xs.length
    · obtain ⟨b1, o1, m1, c1, ha1, hb1, hc0, hc1, hc2, hc3, hc4, hs1⟩ := (hx.later hbel).at hlt
      obtain ⟨b2, o2, m2, c2, ha2, hb2, he0, he1, he2, he3, he4, hs2⟩ := (hy.later hbel).at hlt
      have hfit := hf.names _ (gp_mem hlt)
      subst ha1 ha2
      have hlt2 : (k : Int) < xs.length := by omega
      have r0 := cell_regrown hc0
      have s0 := cell_regrown he0
      have r1 := cell_regrown hc1
      have s1 := cell_regrown he1
      have r2 := cell_regrown hc2
      have s2 := cell_regrown he2
      have r3 := cell_regrown hc3
      have s3 := cell_regrown he3
      have r4 := cell_regrown hc4
      have s4 := cell_regrown he4
      have hcall := fun d os => Calls.regrown_of (w := wr) (eqClaimSpot_any (gp xs k) m1 m2 c1 c2 (grow (redrawn wr d) os) (hs1.later (below_regrown wr d os)) (hs2.later (below_regrown wr d os)) hfit.2.1)
      unfold spotV at hcall
      clear hc0 hc1 hc2 hc3 hc4 he0 he1 he2 he3 he4
      go_wp2
      refine wp_region_quiet_below (by kernel_rfl) (by kernel_rfl) ?_
      repeat (quiet_step (exact hcall _ _))
      refine wpQuiet_nil ?_
      intro w1 hw'
      obtain ⟨⟨dq, osq⟩, hw''⟩ := hw'
      have hbel1 : Below w.heap.size w w1 := hbel.trans ((hw'' ▸ below_regrown wr dq osq).mono hbel.size)
      clear hw'' hcall r0 r1 r2 r3 r4 s0 s1 s2 s3 s4
      go_wp2
      go_roundw
      case rel => exact ⟨k + 1, by omega, by go_num, hbel1⟩
      case measure => simp [intOf]; omega
    · go_wp2
      go_ret
      exact ⟨rfl, hbel⟩

set_option maxHeartbeats 1000000 in
theorem eqClaimPartS_any (a b : Option Addr) (ca cb : Nat) (xs : List Part) (w : World) (hx : PartsAt w a xs) (hy : PartsAt w b xs) (hf : PartsFit xs) :
    Calls Tryz.prog 43 #[.slice a xs.length ca, .slice b xs.length cb] w fun e w' => e = .returned (.bool true) ∧ Below w.heap.size w w' := by
  have lx := hf.len
  unfold maxLen at lx
  have hl1 : ((xs.length : Int) != (xs.length : Int)) = false := by simp
  go_enter Tryz.func43, Tryz.ntmps43
  go_wp2
  go_loopw [5] (fun i wr => ∃ (k : Nat), k ≤ xs.length ∧ i = .int .i64 k ∧ Below w.heap.size w wr) (fun i _ => xs.length - (intOf i).toNat)
  case atStart => exact ⟨0, Nat.zero_le _, rfl, Below.refl _ _⟩
  case round wr =>
    obtain ⟨k, hk, rfl, hbel⟩ := hrel
    clear hl1
    by_cases hlt : k < xs.length
    · obtain ⟨b1, o1, a2, a3, a4, a5, c2, c3, c4, c5, ha1, hb1, hc0, hc1, hc2, hc3, hc4, hc5, hc6, hs1⟩ := (hx.later hbel).at hlt
      obtain ⟨b2, o2, f2, f3, f4, f5, d2, d3, d4, d5, ha2, hb2, he0, he1, he2, he3, he4, he5, he6, hs2⟩ := (hy.later hbel).at hlt
      have hfit := hf.wants _ (gq_mem hlt)
      subst ha1 ha2
      have hlt2 : (k : Int) < xs.length := by omega
      have r0 := cell_regrown hc0
      have s0 := cell_regrown he0
      have r1 := cell_regrown hc1
      have s1 := cell_regrown he1
      have r2 := cell_regrown hc2
      have s2 := cell_regrown he2
      have r3 := cell_regrown hc3
      have s3 := cell_regrown he3
      have r4 := cell_regrown hc4
      have s4 := cell_regrown he4
      have r5 := cell_regrown hc5
      have s5 := cell_regrown he5
      have r6 := cell_regrown hc6
      have s6 := cell_regrown he6
      have hcall := fun d os => Calls.regrown_of (w := wr) (eqClaimPart_any (gq xs k) a2 a3 a4 a5 c2 c3 c4 c5 f2 f3 f4 f5 d2 d3 d4 d5 (grow (redrawn wr d) os) (hs1.later (below_regrown wr d os)) (hs2.later (below_regrown wr d os)) hfit)
      unfold partV at hcall
      clear hc0 hc1 hc2 hc3 hc4 hc5 hc6 he0 he1 he2 he3 he4 he5 he6
      go_wp2
      refine wp_region_quiet_below (by kernel_rfl) (by kernel_rfl) ?_
      repeat (quiet_step (exact hcall _ _))
      refine wpQuiet_nil ?_
      intro w1 hw'
      obtain ⟨⟨dq, osq⟩, hw''⟩ := hw'
      have hbel1 : Below w.heap.size w w1 := hbel.trans ((hw'' ▸ below_regrown wr dq osq).mono hbel.size)
      clear hw'' hcall r0 r1 r2 r3 r4 r5 r6 s0 s1 s2 s3 s4 s5 s6
      go_wp2
      go_roundw
      case rel => exact ⟨k + 1, by omega, by go_num, hbel1⟩
      case measure => simp [intOf]; omega
    · go_wp2
      go_ret
      exact ⟨rfl, hbel⟩

set_option maxHeartbeats 2000000 in
theorem eqClaimBook_any (x : Book) (af ap av aq : Option Addr) (cf cp cv cq : Nat) (ef ep ev eq : Option Addr) (df dp dv dq : Nat) (w : World) (hin : BookIn w x af ap av aq) (hie : BookIn w x ef ep ev eq) (hf : BookFit x) :
    Calls Tryz.prog 11 #[bookV x af ap av aq cf cp cv cq, bookV x ef ep ev eq df dp dv dq] w fun e w' => e = .returned (.bool true) ∧ Below w.heap.size w w' := by
  unfold bookV
  have b0 : Below w.heap.size w ((w.alloc (.cells #[.slice af x.foes.length cf, .slice ap x.spots.length cp, .slice av x.valves.length cv, .slice aq x.parts.length cq, .int .i64 x.seen] 38)).alloc (.cells #[.slice ef x.foes.length df, .slice ep x.spots.length dp, .slice ev x.valves.length dv, .slice eq x.parts.length dq, .int .i64 x.seen] 38)) :=
    ((Below.refl _ _).alloc (Nat.le_refl _) _).alloc (by simp) _
  have i0 := (Row.new w 38 [.slice af x.foes.length cf, .slice ap x.spots.length cp, .slice av x.valves.length cv, .slice aq x.parts.length cq, .int .i64 x.seen]).alloc (.cells #[.slice ef x.foes.length df, .slice ep x.spots.length dp, .slice ev x.valves.length dv, .slice eq x.parts.length dq, .int .i64 x.seen] 38)
  have o0 := Row.new (w.alloc (.cells #[.slice af x.foes.length cf, .slice ap x.spots.length cp, .slice av x.valves.length cv, .slice aq x.parts.length cq, .int .i64 x.seen] 38)) 38 [.slice ef x.foes.length df, .slice ep x.spots.length dp, .slice ev x.valves.length dv, .slice eq x.parts.length dq, .int .i64 x.seen]
  have hsz : (w.alloc (.cells #[.slice af x.foes.length cf, .slice ap x.spots.length cp, .slice av x.valves.length cv, .slice aq x.parts.length cq, .int .i64 x.seen] 38)).heap.size = w.heap.size + 1 := by simp
  rw [hsz] at o0
  clear hsz
  have hn : (x.seen != x.seen) = false := by simp
  go_enter Tryz.func11, Tryz.ntmps11
  go_wp2_with fail
  refine (eqClaimFoeS_any af ef cf df x.foes _ (hin.later b0).foes (hie.later b0).foes hf.foes).mono ?_
  rintro e w1 ⟨rfl, hb⟩
  have b1 := b0.trans (hb.mono b0.size)
  have i1 := i0.later hb
  have o1 := o0.later hb
  clear b0 i0 o0 hb
  have p1 := i1.cell 1 rfl
  have q1 := o1.cell 1 rfl
  go_wp2_with fail
  refine (eqClaimSpotS_any ap ep cp dp x.spots _ (hin.later b1).spots (hie.later b1).spots hf.spots).mono ?_
  rintro e w2 ⟨rfl, hb⟩
  have b2 := b1.trans (hb.mono b1.size)
  have i2 := i1.later hb
  have o2 := o1.later hb
  clear b1 i1 o1 hb p1 q1
  have p2 := i2.cell 2 rfl
  have q2 := o2.cell 2 rfl
  go_wp2_with fail
  refine (eqStringS_any av ev cv dv x.valves x.valves _ (hin.later b2).valves (hie.later b2).valves hf.valves.1).mono ?_
  rintro e w3 ⟨rfl, hb⟩
  rw [eqSS_self]
  have b3 := b2.trans (hb.mono b2.size)
  have i3 := i2.later hb
  have o3 := o2.later hb
  clear b2 i2 o2 hb p2 q2
  have p3 := i3.cell 3 rfl
  have q3 := o3.cell 3 rfl
  go_wp2_with fail
  refine (eqClaimPartS_any aq eq cq dq x.parts _ (hin.later b3).parts (hie.later b3).parts hf.parts).mono ?_
  rintro e w4 ⟨rfl, hb⟩
  have p4 := (i3.later hb).cell 4 rfl
  have q4 := (o3.later hb).cell 4 rfl
  clear i3 o3 p3 q3
  go_wp2
  go_ret
  exact ⟨rfl, b3.trans (hb.mono b3.size)⟩

end Go.Proofs.YtfmhkicncgccjaaGreatDoor

/- What the specification's small functions on books answer. -/
namespace Go.Proofs.YtfmhkicncgccjaaGreatDoor
open Go.RowKit Go.Sort
set_option linter.unusedSimpArgs false
set_option linter.unusedVariables false

def foeHit (f : Foe) (x y : ByteArray) : Bool := eqS f.a x && eqS f.b y || eqS f.a y && eqS f.b x
/-- Two stuffs are foes. -/
def foesB (fs : List Foe) (x y : ByteArray) : Bool := anyTo fs.length (fun i => foeHit (gf fs i) x y)
/-- A stuff is a foe of one of some. -/
def clashB (fs : List Foe) (s : ByteArray) (may : List ByteArray) : Bool := anyTo may.length (fun i => foesB fs s (gs may i))
/-- All of a list are in another one. -/
def allB (xs ys : List ByteArray) : Bool := allTo xs.length (fun i => hasB ys (gs xs i))
/-- The place of a spot of this name, as an integer; -1 if there is none. -/
def spotFrom (ps : List Spot) (s : ByteArray) : Nat → Nat → Int
  | _, 0 => -1
  | k, n + 1 => if eqS (gp ps k).name s then (k : Int) else spotFrom ps s (k + 1) n
def spotI (ps : List Spot) (s : ByteArray) : Int := spotFrom ps s 0 ps.length

theorem spotFrom_all {ps : List Spot} {s : ByteArray} : ∀ (n k : Nat), (∀ i, k ≤ i → i < k + n → eqS (gp ps i).name s = false) → spotFrom ps s k n = -1
  | 0, _, _ => rfl
  | n + 1, k, h => by
    unfold spotFrom
    rw [h k (Nat.le_refl _) (by omega)]
    exact spotFrom_all n (k + 1) (fun i h1 h2 => h i (by omega) (by omega))
theorem spotFrom_hit {ps : List Spot} {s : ByteArray} {j : Nat} : ∀ (n k : Nat), k ≤ j → j < k + n → (∀ i, k ≤ i → i < j → eqS (gp ps i).name s = false) → eqS (gp ps j).name s = true → spotFrom ps s k n = j
  | 0, k, h1, h2, _, _ => by omega
  | n + 1, k, h1, h2, h, hj => by
    unfold spotFrom
    by_cases e : k = j
    · subst e; rw [hj]; rfl
    · rw [h k (Nat.le_refl _) (by omega)]
      exact spotFrom_hit n (k + 1) (by omega) (by omega) (fun i a b => h i (by omega) b) hj
theorem spotI_hit {ps : List Spot} {s : ByteArray} {j : Nat} (hj : j < ps.length) (h : allTo j (fun i => !eqS (gp ps i).name s) = true) (he : eqS (gp ps j).name s = true) : spotI ps s = j :=
  spotFrom_hit ps.length 0 (Nat.zero_le _) (by omega) (fun i _ hi => by simpa using allTo_iff.1 h i hi) he
theorem spotI_none {ps : List Spot} {s : ByteArray} (h : allTo ps.length (fun i => !eqS (gp ps i).name s) = true) : spotI ps s = -1 :=
  spotFrom_all ps.length 0 (fun i _ hi => by simpa using allTo_iff.1 h i (by omega))
theorem spotI_cases (ps : List Spot) (s : ByteArray) : (spotI ps s = -1 ∧ allTo ps.length (fun i => !eqS (gp ps i).name s) = true) ∨ ∃ j, j < ps.length ∧ spotI ps s = (j : Int) ∧ eqS (gp ps j).name s = true ∧ allTo j (fun i => !eqS (gp ps i).name s) = true := by
  have : ∀ n, n ≤ ps.length → allTo n (fun i => !eqS (gp ps i).name s) = true ∨ ∃ j, j < n ∧ eqS (gp ps j).name s = true ∧ allTo j (fun i => !eqS (gp ps i).name s) = true := by
    intro n
    induction n with
    | zero => intro _; exact Or.inl rfl
    | succ n ih =>
      intro hn
      rcases ih (by omega) with h | ⟨j, h1, h2, h3⟩
      · cases e : eqS (gp ps n).name s with
        | true => exact Or.inr ⟨n, by omega, e, h⟩
        | false => exact Or.inl (allTo_succ h (by simp [e]))
      · exact Or.inr ⟨j, by omega, h2, h3⟩
  rcases this ps.length (Nat.le_refl _) with h | ⟨j, h1, h2, h3⟩
  · exact Or.inl ⟨spotI_none h, h⟩
  · exact Or.inr ⟨j, h1, spotI_hit h1 h3 h2, h2, h3⟩

set_option maxHeartbeats 1000000 in
theorem l2Foes_any (x : Book) (af ap av aq : Option Addr) (cf cp cv cq : Nat) (s t : ByteArray) (w : World) (hm : FoesAt w af x.foes) (hl : x.foes.length ≤ maxLen) :
    Calls Tryz.prog 117 #[bookV x af ap av aq cf cp cv cq, .string s, .string t] w fun e w' => e = .returned (.bool (foesB x.foes s t)) ∧ Below w.heap.size w w' := by
  unfold maxLen at hl
  unfold bookV
  go_enter Tryz.func117, Tryz.ntmps117
  go_wp2
  go_loop [7] (fun i => ∃ (k : Nat), k ≤ x.foes.length ∧ i = .int .i64 k ∧ allTo k (fun i => !foeHit (gf x.foes i) s t) = true) (fun i => x.foes.length - (intOf i).toNat)
  case atStart => exact ⟨0, Nat.zero_le _, rfl, rfl⟩
  case round =>
    obtain ⟨k, hk, rfl, hall⟩ := hrel
    by_cases hlt : k < x.foes.length
    · obtain ⟨b, o, ha, hb, hc0, hc1⟩ := hm.at hlt
      subst ha
      have hne : b ≠ w.heap.size := by omega
      cases hq : foeHit (gf x.foes k) s t with
      | true =>
        have hq' := hq
        unfold foeHit eqS at hq'
        have HQ : Hid (((gf x.foes k).a.toList == s.toList && (gf x.foes k).b.toList == t.toList || (gf x.foes k).a.toList == t.toList && (gf x.foes k).b.toList == s.toList) = true) := hq'
        clear hq'
        go_wp2
        all_goals first
          | (go_ret; exact ⟨ret_bool (anyTo_true k hlt hq).symm, (Below.refl _ _).alloc (Nat.le_refl _) _⟩)
          | (exfalso; have := HQ.out; simp_all)
      | false =>
        have hq' := hq
        unfold foeHit eqS at hq'
        have HQ : Hid (((gf x.foes k).a.toList == s.toList && (gf x.foes k).b.toList == t.toList || (gf x.foes k).a.toList == t.toList && (gf x.foes k).b.toList == s.toList) = false) := hq'
        clear hq'
        go_wp2
        all_goals first
          | (go_round
             case rel => exact ⟨k + 1, by omega, by go_num, allTo_succ hall (by simp [hq])⟩
             case measure => simp [intOf]; omega)
          | (exfalso; have := HQ.out; simp_all)
    · go_wp2
      go_ret
      have : k = x.foes.length := by omega
      subst this
      exact ⟨ret_bool (anyTo_none hall).symm, (Below.refl _ _).alloc (Nat.le_refl _) _⟩

set_option maxHeartbeats 1000000 in
theorem l2Spot_any (x : Book) (af ap av aq : Option Addr) (cf cp cv cq : Nat) (s : ByteArray) (w : World) (hm : SpotsAt w ap x.spots) (hl : x.spots.length ≤ maxLen) :
    Calls Tryz.prog 68 #[bookV x af ap av aq cf cp cv cq, .string s] w fun e w' => e = .returned (.int .i64 (spotI x.spots s)) ∧ Below w.heap.size w w' := by
  unfold maxLen at hl
  unfold bookV
  go_enter Tryz.func68, Tryz.ntmps68
  go_wp2
  go_loop [5] (fun i => ∃ (k : Nat), k ≤ x.spots.length ∧ i = .int .i64 k ∧ allTo k (fun i => !eqS (gp x.spots i).name s) = true) (fun i => x.spots.length - (intOf i).toNat)
  case atStart => exact ⟨0, Nat.zero_le _, rfl, rfl⟩
  case round =>
    obtain ⟨k, hk, rfl, hall⟩ := hrel
    by_cases hlt : k < x.spots.length
    · obtain ⟨b, o, m, c, ha, hb, hc0, hc1, hc2, hc3, hc4, -⟩ := hm.at hlt
      subst ha
      have hne : b ≠ w.heap.size := by omega
      clear hc1 hc2 hc3 hc4
      cases hq : eqS (gp x.spots k).name s with
      | true =>
        have hq' : ((gp x.spots k).name.toList == s.toList) = true := hq
        go_wp2
        go_ret
        exact ⟨congrArg (fun z => Ending.returned (.int .i64 z)) (spotI_hit hlt hall hq).symm, (Below.refl _ _).alloc (Nat.le_refl _) _⟩
      | false =>
        have hq' : ((gp x.spots k).name.toList == s.toList) = false := hq
        go_wp2
        go_round
        case rel => exact ⟨k + 1, by omega, by go_num, allTo_succ hall (by simp [hq])⟩
        case measure => simp [intOf]; omega
    · go_wp2
      go_ret
      have : k = x.spots.length := by omega
      subst this
      exact ⟨congrArg (fun z => Ending.returned (.int .i64 z)) (spotI_none hall).symm, (Below.refl _ _).alloc (Nat.le_refl _) _⟩

set_option maxHeartbeats 400000 in
theorem l1All_any (a b : Option Addr) (ca cb : Nat) (xs ys : List ByteArray) (w : World) (hx : StrsAt w a xs) (hy : StrsAt w b ys) (lx : xs.length ≤ maxLen) (ly : ys.length ≤ maxLen) :
    Calls Tryz.prog 72 #[.slice a xs.length ca, .slice b ys.length cb] w fun e w' => e = .returned (.bool (allB xs ys)) ∧ w = w' := by
  have lx' := lx
  unfold maxLen at lx'
  go_enter Tryz.func72, Tryz.ntmps72
  go_wp2
  go_loop [5] (fun i => ∃ (k : Nat), k ≤ xs.length ∧ i = .int .i64 k ∧ allTo k (fun i => hasB ys (gs xs i)) = true) (fun i => xs.length - (intOf i).toNat)
  case atStart => exact ⟨0, Nat.zero_le _, rfl, rfl⟩
  case round =>
    obtain ⟨k, hk, rfl, hall⟩ := hrel
    by_cases hlt : k < xs.length
    · obtain ⟨b1, o1, ha, hb, hc⟩ := hx.at hlt
      subst ha
      cases hq : hasB ys (gs xs k) with
      | true =>
        go_wp2_with (go_at_call 69; refine (l1Has_any b cb ys (gs xs k) _ hy ly).mono ?_; rintro e w1 ⟨rfl, rfl⟩; rw [hq])
        go_round
        case rel => exact ⟨k + 1, by omega, by go_num, allTo_succ hall hq⟩
        case measure => simp [intOf]; omega
      | false =>
        go_wp2_with (go_at_call 69; refine (l1Has_any b cb ys (gs xs k) _ hy ly).mono ?_; rintro e w1 ⟨rfl, rfl⟩; rw [hq])
        go_ret
        exact ⟨ret_bool (allTo_false k hlt hq).symm, rfl⟩
    · go_wp2
      go_ret
      have : k = xs.length := by omega
      subst this
      exact ⟨ret_bool hall.symm, rfl⟩

/-- Two wants cross. -/
def crossB (x y : Want) : Bool := shareB x.opens y.opens || shareB x.opens y.shuts || shareB x.shuts y.opens

set_option maxHeartbeats 1000000 in
theorem l2Crosses_any (x y : Want) (a2 a3 a4 a5 : Option Addr) (c2 c3 c4 c5 : Nat) (e2 e3 e4 e5 : Option Addr) (d2 d3 d4 d5 : Nat) (w : World) (hx : WantIn w x a2 a3 a4 a5) (hy : WantIn w y e2 e3 e4 e5) (fx : WantFit x) (fy : WantFit y) :
    Calls Tryz.prog 30 #[wantW x a2 a3 a4 a5 c2 c3 c4 c5, wantW y e2 e3 e4 e5 d2 d3 d4 d5] w fun e w' => e = .returned (.bool (crossB x y)) ∧ Below w.heap.size w w' := by
  unfold wantW
  have b0 : Below w.heap.size w ((w.alloc (.cells #[.int .i64 x.number, .int .i64 x.kind, .slice a2 x.stuffs.length c2, .slice a3 x.uses.length c3, .slice a4 x.opens.length c4, .slice a5 x.shuts.length c5] 42)).alloc (.cells #[.int .i64 y.number, .int .i64 y.kind, .slice e2 y.stuffs.length d2, .slice e3 y.uses.length d3, .slice e4 y.opens.length d4, .slice e5 y.shuts.length d5] 42)) :=
    ((Below.refl _ _).alloc (Nat.le_refl _) _).alloc (by simp) _
  have hx0 := hx.later b0
  have hy0 := hy.later b0
  cases h1 : shareB x.opens y.opens with
  | true =>
    go_enter Tryz.func30, Tryz.ntmps30
    go_wp2_with fail
    refine (l1Share_any a4 e4 c4 d4 x.opens y.opens _ hx0.opens hy0.opens fx.opens.1 fy.opens.1).mono ?_
    rintro e w1 ⟨rfl, rfl⟩
    rw [h1]
    go_wp2
    go_ret
    exact ⟨ret_bool (by simp [crossB, h1]), b0⟩
  | false =>
    cases h2 : shareB x.opens y.shuts with
    | true =>
      go_enter Tryz.func30, Tryz.ntmps30
      go_wp2_with fail
      refine (l1Share_any a4 e4 c4 d4 x.opens y.opens _ hx0.opens hy0.opens fx.opens.1 fy.opens.1).mono ?_
      rintro e w1 ⟨rfl, rfl⟩
      rw [h1]
      go_wp2_with fail
      refine (l1Share_any a4 e5 c4 d5 x.opens y.shuts _ hx0.opens hy0.shuts fx.opens.1 fy.shuts.1).mono ?_
      rintro e w1 ⟨rfl, rfl⟩
      rw [h2]
      go_wp2
      go_ret
      exact ⟨ret_bool (by simp [crossB, h2]), b0⟩
    | false =>
      go_enter Tryz.func30, Tryz.ntmps30
      go_wp2_with fail
      refine (l1Share_any a4 e4 c4 d4 x.opens y.opens _ hx0.opens hy0.opens fx.opens.1 fy.opens.1).mono ?_
      rintro e w1 ⟨rfl, rfl⟩
      rw [h1]
      go_wp2_with fail
      refine (l1Share_any a4 e5 c4 d5 x.opens y.shuts _ hx0.opens hy0.shuts fx.opens.1 fy.shuts.1).mono ?_
      rintro e w1 ⟨rfl, rfl⟩
      rw [h2]
      go_wp2_with fail
      refine (l1Share_any a5 e4 c5 d4 x.shuts y.opens _ hx0.shuts hy0.opens fx.shuts.1 fy.opens.1).mono ?_
      rintro e w1 ⟨rfl, rfl⟩
      go_wp2
      go_ret
      exact ⟨ret_bool (by simp [crossB, h1, h2]), b0⟩

end Go.Proofs.YtfmhkicncgccjaaGreatDoor

/- What the specification's l2Clash, l2FoesOk and l2SpotOk answer. -/
namespace Go.Proofs.YtfmhkicncgccjaaGreatDoor
open Go.RowKit Go.Sort
set_option linter.unusedSimpArgs false
set_option linter.unusedVariables false

/-- The cells of a book. -/
def bookL (x : Book) (af ap av aq : Option Addr) (cf cp cv cq : Nat) : List Value :=
  [.slice af x.foes.length cf, .slice ap x.spots.length cp, .slice av x.valves.length cv, .slice aq x.parts.length cq, .int .i64 x.seen]

theorem bookRow {w wr : World} {x : Book} {af ap av aq : Option Addr} {cf cp cv cq : Nat} {t : TypeId}
    (h : Below (w.alloc (.cells (bookL x af ap av aq cf cp cv cq).toArray t)).heap.size (w.alloc (.cells (bookL x af ap av aq cf cp cv cq).toArray t)) wr) : Row wr w.heap.size t (bookL x af ap av aq cf cp cv cq) := (Row.new w t _).later h

set_option maxHeartbeats 1000000 in
theorem l2Clash_any (x : Book) (af ap av aq : Option Addr) (cf cp cv cq : Nat) (s : ByteArray) (a : Option Addr) (cap : Nat) (may : List ByteArray) (w : World) (hm : FoesAt w af x.foes) (hl : x.foes.length ≤ maxLen) (hs : StrsAt w a may) (hls : may.length ≤ maxLen) :
    Calls Tryz.prog 99 #[bookV x af ap av aq cf cp cv cq, .string s, .slice a may.length cap] w fun e w' => e = .returned (.bool (clashB x.foes s may)) ∧ Below w.heap.size w w' := by
  have hls' := hls
  unfold maxLen at hls'
  unfold bookV
  go_enter Tryz.func99, Tryz.ntmps99
  go_wp2
  go_loopw [7] (fun i wr => ∃ (k : Nat), k ≤ may.length ∧ i = .int .i64 k ∧ allTo k (fun i => !foesB x.foes s (gs may i)) = true ∧ Below (w.alloc (.cells (bookL x af ap av aq cf cp cv cq).toArray 38)).heap.size (w.alloc (.cells (bookL x af ap av aq cf cp cv cq).toArray 38)) wr) (fun i _ => may.length - (intOf i).toNat)
  case atStart => exact ⟨0, Nat.zero_le _, rfl, rfl, Below.refl _ _⟩
  case round wr =>
    obtain ⟨k, hk, rfl, hall, hbel⟩ := hrel
    have hbw := below_over hbel
    by_cases hlt : k < may.length
    · obtain ⟨b, o, ha, hb, hc⟩ := (hs.later hbw).at hlt
      subst ha
      have row := bookRow hbel
      have r0 := cell_regrown (row.cell 0 rfl)
      have r1 := cell_regrown (row.cell 1 rfl)
      have r2 := cell_regrown (row.cell 2 rfl)
      have r3 := cell_regrown (row.cell 3 rfl)
      have r4 := cell_regrown (row.cell 4 rfl)
      have rc := cell_regrown hc
      have hcall := fun d os => Calls.regrown_of (w := wr) (l2Foes_any x af ap av aq cf cp cv cq s (gs may k) (grow (redrawn wr d) os) (hm.later (hbw.trans ((below_regrown wr d os).mono hbw.size))) hl)
      unfold bookV at hcall
      have hlt2 : (k : Int) < may.length := by omega
      clear hc row
      go_wp2
      refine wp_region_quiet_below (by kernel_rfl) (by kernel_rfl) ?_
      repeat (quiet_step (exact hcall _ _))
      refine wpQuiet_nil ?_
      intro w1 hw'
      obtain ⟨⟨dq, osq⟩, hw''⟩ := hw'
      have hbel1 := hbel.trans ((hw'' ▸ below_regrown wr dq osq).mono hbel.size)
      clear hw'' hcall r0 r1 r2 r3 r4 rc
      cases hq : foesB x.foes s (gs may k) with
      | true =>
        go_wp2
        go_ret
        exact ⟨ret_bool (anyTo_true k hlt hq).symm, below_over hbel1⟩
      | false =>
        go_wp2
        go_roundw
        case rel => exact ⟨k + 1, by omega, by go_num, allTo_succ hall (by simp [hq]), hbel1⟩
        case measure => simp [intOf]; omega
    · go_wp2
      go_ret
      have : k = may.length := by omega
      subst this
      exact ⟨ret_bool (anyTo_none hall).symm, hbw⟩

end Go.Proofs.YtfmhkicncgccjaaGreatDoor

/- What the specification's l2SpotOk, l2Knows and l2UseOk answer. -/
namespace Go.Proofs.YtfmhkicncgccjaaGreatDoor
open Go.RowKit Go.Sort
set_option linter.unusedSimpArgs false
set_option linter.unusedVariables false

/-- A spot is ok by itself, as the specification asks. -/
def spotOkB (fs : List Foe) (s : Spot) : Bool :=
  nameB s.name && inB s.cap 0 1000 && inB s.least 0 s.most && decide (s.most ≤ s.cap) && namesB s.may 8 && allTo s.may.length (fun i => !clashB fs (gs s.may i) s.may)

theorem spotOkB_last {fs : List Foe} {s : Spot} (h1 : nameB s.name = true) (h2 : inB s.cap 0 1000 = true) (h3 : inB s.least 0 s.most = true) (h4 : decide (s.most ≤ s.cap) = true) (h5 : namesB s.may 8 = true) :
    spotOkB fs s = allTo s.may.length (fun i => !clashB fs (gs s.may i) s.may) := by unfold spotOkB; rw [h1, h2, h3, h4, h5]; rfl

set_option maxRecDepth 100000 in
set_option maxHeartbeats 2000000 in
theorem l2SpotOk_any (x : Book) (af ap av aq : Option Addr) (cf cp cv cq : Nat) (s : Spot) (m : Option Addr) (c : Nat) (w : World) (hm : FoesAt w af x.foes) (hl : x.foes.length ≤ maxLen) (hs : StrsAt w m s.may) (hf : s.name.size ≤ maxLen ∧ Fit s.may) :
    Calls Tryz.prog 65 #[bookV x af ap av aq cf cp cv cq, spotV s m c] w fun e w' => e = .returned (.bool (spotOkB x.foes s)) ∧ Below w.heap.size w w' := by
  have hls := hf.2.1
  unfold maxLen at hls
  unfold bookV spotV
  have b0 : Below w.heap.size w ((w.alloc (.cells #[.slice af x.foes.length cf, .slice ap x.spots.length cp, .slice av x.valves.length cv, .slice aq x.parts.length cq, .int .i64 x.seen] 38)).alloc (.cells #[.string s.name, .int .i64 s.cap, .int .i64 s.least, .int .i64 s.most, .slice m s.may.length c] 99)) :=
    ((Below.refl _ _).alloc (Nat.le_refl _) _).alloc (by simp) _
  have i0 : Row ((w.alloc (.cells #[.slice af x.foes.length cf, .slice ap x.spots.length cp, .slice av x.valves.length cv, .slice aq x.parts.length cq, .int .i64 x.seen] 38)).alloc (.cells #[.string s.name, .int .i64 s.cap, .int .i64 s.least, .int .i64 s.most, .slice m s.may.length c] 99)) w.heap.size 38 (bookL x af ap av aq cf cp cv cq) := (Row.new w 38 (bookL x af ap av aq cf cp cv cq)).alloc _
  have o0 : Row ((w.alloc (.cells #[.slice af x.foes.length cf, .slice ap x.spots.length cp, .slice av x.valves.length cv, .slice aq x.parts.length cq, .int .i64 x.seen] 38)).alloc (.cells #[.string s.name, .int .i64 s.cap, .int .i64 s.least, .int .i64 s.most, .slice m s.may.length c] 99)) (w.heap.size + 1) 99 [.string s.name, .int .i64 s.cap, .int .i64 s.least, .int .i64 s.most, .slice m s.may.length c] := by
    have := Row.new (w.alloc (.cells #[.slice af x.foes.length cf, .slice ap x.spots.length cp, .slice av x.valves.length cv, .slice aq x.parts.length cq, .int .i64 x.seen] 38)) 99 [.string s.name, .int .i64 s.cap, .int .i64 s.least, .int .i64 s.most, .slice m s.may.length c]
    simpa using this
  go_enter Tryz.func65, Tryz.ntmps65
  go_wp2_with fail
  refine (l1NameOk_any s.name _ hf.1).mono ?_
  rintro e w' ⟨rfl, rfl⟩
  cases h1 : nameB s.name with
  | false =>
    go_wp2
    go_ret
    exact ⟨ret_bool (by simp [spotOkB, h1]), b0⟩
  | true =>
  go_wp2_with fail
  refine (l1In_any _ _ _ _).mono ?_
  rintro e w' ⟨rfl, rfl⟩
  cases h2 : inB s.cap 0 1000 with
  | false =>
    go_wp2
    go_ret
    exact ⟨ret_bool (by simp [spotOkB, h2]), b0⟩
  | true =>
  go_wp2_with fail
  refine (l1In_any _ _ _ _).mono ?_
  rintro e w' ⟨rfl, rfl⟩
  cases h3 : inB s.least 0 s.most with
  | false =>
    go_wp2
    go_ret
    exact ⟨ret_bool (by simp [spotOkB, h3]), b0⟩
  | true =>
  by_cases h4 : s.most ≤ s.cap
  case neg =>
    have h4' : s.cap < s.most := by omega
    clear h4
    go_wp2
    go_ret
    refine ⟨ret_bool ?_, b0⟩
    unfold spotOkB
    rw [decide_eq_false (by omega)]
    simp
  have h4' : ¬ s.cap < s.most := by omega
  go_wp2_with fail
  refine (l1NamesOk_any m c s.may 8 _ (hs.later b0) hf.2).mono ?_
  rintro e w1 ⟨rfl, hb⟩
  have b1 := b0.trans (hb.mono b0.size)
  have i1 := i0.later hb
  have o1 := o0.later hb
  clear b0 i0 o0 hb
  cases h5 : namesB s.may 8 with
  | false =>
    go_wp2
    go_ret
    exact ⟨ret_bool (by simp [spotOkB, h5]), b1⟩
  | true =>
  have hlast := spotOkB_last (fs := x.foes) h1 h2 h3 (decide_eq_true h4) h5
  have HL : Hid (spotOkB x.foes s = allTo s.may.length (fun i => !clashB x.foes (gs s.may i) s.may)) := hlast
  clear hlast
  go_wp2
  go_loopw [5] (fun i wr => ∃ (k : Nat), k ≤ s.may.length ∧ i = .int .i64 k ∧ allTo k (fun i => !clashB x.foes (gs s.may i) s.may) = true ∧ Below w1.heap.size w1 wr) (fun i _ => s.may.length - (intOf i).toNat)
  case atStart => exact ⟨0, Nat.zero_le _, rfl, rfl, Below.refl _ _⟩
  case round wr =>
    obtain ⟨k, hk, rfl, hall, hbel⟩ := hrel
    have hbw := b1.trans (hbel.mono b1.size)
    have i2 := i1.later hbel
    have o2 := o1.later hbel
    have y4 := o2.cell 4 rfl
    by_cases hlt : k < s.may.length
    · obtain ⟨b, o, ha, hb, hc⟩ := (hs.later hbw).at hlt
      subst ha
      have r0 := cell_regrown (i2.cell 0 rfl)
      have r1 := cell_regrown (i2.cell 1 rfl)
      have r2 := cell_regrown (i2.cell 2 rfl)
      have r3 := cell_regrown (i2.cell 3 rfl)
      have r4 := cell_regrown (i2.cell 4 rfl)
      have s4 := cell_regrown y4
      have rc := cell_regrown hc
      have hcall := fun d os => Calls.regrown_of (w := wr) (l2Clash_any x af ap av aq cf cp cv cq (gs s.may k) _ c s.may (grow (redrawn wr d) os) (hm.later (hbw.trans ((below_regrown wr d os).mono hbw.size))) hl (hs.later (hbw.trans ((below_regrown wr d os).mono hbw.size))) hf.2.1)
      unfold bookV at hcall
      have hlt2 : (k : Int) < s.may.length := by omega
      clear hc i2 o2
      go_wp2
      refine wp_region_quiet_below (by kernel_rfl) (by kernel_rfl) ?_
      repeat (quiet_step (exact hcall _ _))
      refine wpQuiet_nil ?_
      intro w2 hw'
      obtain ⟨⟨dq, osq⟩, hw''⟩ := hw'
      have hbel1 := hbel.trans ((hw'' ▸ below_regrown wr dq osq).mono hbel.size)
      clear hw'' hcall r0 r1 r2 r3 r4 rc s4
      cases hq : clashB x.foes (gs s.may k) s.may with
      | true =>
        go_wp2
        go_ret
        exact ⟨ret_bool (by rw [HL.out]; exact (allTo_false k hlt (by simp [hq])).symm), b1.trans (hbel1.mono b1.size)⟩
      | false =>
        go_wp2
        go_roundw
        case rel => exact ⟨k + 1, by omega, by go_num, allTo_succ hall (by simp [hq]), hbel1⟩
        case measure => simp [intOf]; omega
    · go_wp2
      go_ret
      have : k = s.may.length := by omega
      subst this
      exact ⟨ret_bool (by rw [HL.out]; exact hall.symm), hbw⟩

end Go.Proofs.YtfmhkicncgccjaaGreatDoor

/- What the specification's l2Knows and l2UseOk answer. -/
namespace Go.Proofs.YtfmhkicncgccjaaGreatDoor
open Go.RowKit Go.Sort
set_option linter.unusedSimpArgs false
set_option linter.unusedVariables false

/-- A station knows a want. -/
def knowsB (x : Book) (y : Want) : Bool := allTo y.uses.length (fun i => decide (0 ≤ spotI x.spots (gu y.uses i).name)) && allB y.opens x.valves && allB y.shuts x.valves

/-- The cells of a want. -/
def wantL (y : Want) (a2 a3 a4 a5 : Option Addr) (c2 c3 c4 c5 : Nat) : List Value :=
  [.int .i64 y.number, .int .i64 y.kind, .slice a2 y.stuffs.length c2, .slice a3 y.uses.length c3, .slice a4 y.opens.length c4, .slice a5 y.shuts.length c5]

set_option maxRecDepth 100000 in
set_option maxHeartbeats 2000000 in
theorem l2Knows_any (x : Book) (af ap av aq : Option Addr) (cf cp cv cq : Nat) (y : Want) (a2 a3 a4 a5 : Option Addr) (c2 c3 c4 c5 : Nat) (w : World) (hx : BookIn w x af ap av aq) (hy : WantIn w y a2 a3 a4 a5) (fx : BookFit x) (fy : WantFit y) :
    Calls Tryz.prog 25 #[bookV x af ap av aq cf cp cv cq, wantW y a2 a3 a4 a5 c2 c3 c4 c5] w fun e w' => e = .returned (.bool (knowsB x y)) ∧ Below w.heap.size w w' := by
  have hl3 := fy.usesLen
  have hl4 := fy.opens.1
  have hl5 := fy.shuts.1
  unfold maxLen at hl3 hl4 hl5
  unfold bookV wantW
  have b0 : Below w.heap.size w ((w.alloc (.cells (bookL x af ap av aq cf cp cv cq).toArray 38)).alloc (.cells (wantL y a2 a3 a4 a5 c2 c3 c4 c5).toArray 42)) :=
    ((Below.refl _ _).alloc (Nat.le_refl _) _).alloc (by simp) _
  have i0 : Row ((w.alloc (.cells (bookL x af ap av aq cf cp cv cq).toArray 38)).alloc (.cells (wantL y a2 a3 a4 a5 c2 c3 c4 c5).toArray 42)) w.heap.size 38 (bookL x af ap av aq cf cp cv cq) := (Row.new w 38 (bookL x af ap av aq cf cp cv cq)).alloc _
  have o0 : Row ((w.alloc (.cells (bookL x af ap av aq cf cp cv cq).toArray 38)).alloc (.cells (wantL y a2 a3 a4 a5 c2 c3 c4 c5).toArray 42)) (w.heap.size + 1) 42 (wantL y a2 a3 a4 a5 c2 c3 c4 c5) := by
    have := Row.new (w.alloc (.cells (bookL x af ap av aq cf cp cv cq).toArray 38)) 42 (wantL y a2 a3 a4 a5 c2 c3 c4 c5)
    simpa using this
  go_enter Tryz.func25, Tryz.ntmps25
  go_wp2
  go_loopw [5] (fun i wr => ∃ (k : Nat), k ≤ y.uses.length ∧ i = .int .i64 k ∧ allTo k (fun i => decide (0 ≤ spotI x.spots (gu y.uses i).name)) = true ∧ Below ((w.alloc (.cells (bookL x af ap av aq cf cp cv cq).toArray 38)).alloc (.cells (wantL y a2 a3 a4 a5 c2 c3 c4 c5).toArray 42)).heap.size ((w.alloc (.cells (bookL x af ap av aq cf cp cv cq).toArray 38)).alloc (.cells (wantL y a2 a3 a4 a5 c2 c3 c4 c5).toArray 42)) wr) (fun i _ => y.uses.length - (intOf i).toNat)
  case atStart => exact ⟨0, Nat.zero_le _, rfl, rfl, Below.refl _ _⟩
  case round wr =>
    obtain ⟨k, hk, rfl, hall, hbel⟩ := hrel
    have hbw := b0.trans (hbel.mono b0.size)
    have i1 := i0.later hbel
    have o1 := o0.later hbel
    clear i0 o0
    have y3 := o1.cell 3 rfl
    by_cases hlt : k < y.uses.length
    · obtain ⟨b, o, ha, hb, hc0, hc1, hc2⟩ := (hy.later hbw).uses.at hlt
      subst ha
      have r0 := cell_regrown (i1.cell 0 rfl)
      have r1 := cell_regrown (i1.cell 1 rfl)
      have r2 := cell_regrown (i1.cell 2 rfl)
      have r3 := cell_regrown (i1.cell 3 rfl)
      have r4 := cell_regrown (i1.cell 4 rfl)
      have s3 := cell_regrown y3
      have rc := cell_regrown hc0
      have hcall := fun d os => Calls.regrown_of (w := wr) (l2Spot_any x af ap av aq cf cp cv cq (gu y.uses k).name (grow (redrawn wr d) os) (hx.later (hbw.trans ((below_regrown wr d os).mono hbw.size))).spots fx.spots.len)
      unfold bookV at hcall
      have hlt2 : (k : Int) < y.uses.length := by omega
      clear hc0 hc1 hc2 i1 o1
      go_wp2
      refine wp_region_quiet_below (by kernel_rfl) (by kernel_rfl) ?_
      repeat (quiet_step (exact hcall _ _))
      refine wpQuiet_nil ?_
      intro w2 hw'
      obtain ⟨⟨dq, osq⟩, hw''⟩ := hw'
      have hbel1 := hbel.trans ((hw'' ▸ below_regrown wr dq osq).mono hbel.size)
      clear hw'' hcall r0 r1 r2 r3 r4 rc s3
      generalize hsp : spotI x.spots (gu y.uses k).name = sp
      have HSP : Hid (spotI x.spots (gu y.uses k).name = sp) := hsp
      clear hsp
      by_cases hq : sp < 0
      · go_wp2
        go_ret
        exact ⟨ret_bool (by unfold knowsB; rw [allTo_false k hlt (by rw [HSP.out]; exact decide_eq_false (by omega))]; rfl), b0.trans (hbel1.mono b0.size)⟩
      · go_wp2
        go_roundw
        case rel => exact ⟨k + 1, by omega, by go_num, allTo_succ hall (by rw [HSP.out]; exact decide_eq_true (by omega)), hbel1⟩
        case measure => simp [intOf]; omega
    · have hkk : k = y.uses.length := by omega
      have HA1 : Hid (allTo y.uses.length (fun i => decide (0 ≤ spotI x.spots (gu y.uses i).name)) = true) := by rw [← hkk]; exact hall
      clear hall hkk
      go_wp2
      go_loopw [6] (fun i wv => ∃ (k : Nat) (w2 : World), w2 = wv ∧ k ≤ y.opens.length ∧ i = .int .i64 k ∧ allTo k (fun i => hasB x.valves (gs y.opens i)) = true ∧ Below wr.heap.size wr w2) (fun i _ => y.opens.length - (intOf i).toNat)
      case atStart => exact ⟨0, _, rfl, Nat.zero_le _, rfl, rfl, Below.refl _ _⟩
      case round =>
        obtain ⟨k2, w2, rfl, hk2, rfl, hall2, hbel2⟩ := hrel
        have hbw2 := hbw.trans (hbel2.mono hbw.size)
        have i2 := i1.later hbel2
        have o2 := o1.later hbel2
        have y4 := o2.cell 4 rfl
        by_cases hlt2 : k2 < y.opens.length
        · obtain ⟨b, o, ha, hb, hc⟩ := (hy.later hbw2).opens.at hlt2
          subst ha
          have r2 := cell_regrown (i2.cell 2 rfl)
          have s4 := cell_regrown y4
          have rc := cell_regrown hc
          have hcall := fun d os => Calls.regrown_of (w := w2) ((l1Has_any av cv x.valves (gs y.opens k2) (grow (redrawn w2 d) os) (hx.later (hbw2.trans ((below_regrown w2 d os).mono hbw2.size))).valves fx.valves.1).mono (fun _ _ h => ⟨h.1, h.2 ▸ Below.refl _ _⟩))
          have hlt3 : (k2 : Int) < y.opens.length := by omega
          clear hc i2 o2
          go_wp2
          refine wp_region_quiet_below (by kernel_rfl) (by kernel_rfl) ?_
          repeat (quiet_step (exact hcall _ _))
          refine wpQuiet_nil ?_
          intro w3 hw'
          obtain ⟨⟨dq, osq⟩, hw''⟩ := hw'
          have hbel3 := hbel2.trans ((hw'' ▸ below_regrown w2 dq osq).mono hbel2.size)
          clear hw'' hcall r2 rc s4
          cases hq : hasB x.valves (gs y.opens k2) with
          | false =>
            go_wp2
            go_ret
            exact ⟨ret_bool (by unfold knowsB allB; rw [allTo_false k2 hlt2 hq, Bool.and_false]; rfl), hbw.trans (hbel3.mono hbw.size)⟩
          | true =>
            go_wp2
            go_roundw
            case rel => exact ⟨k2 + 1, _, rfl, by omega, by go_num, allTo_succ hall2 hq, hbel3⟩
            case measure => simp [intOf]; omega
        · have hkk : k2 = y.opens.length := by omega
          have HA2 : Hid (allTo y.opens.length (fun i => hasB x.valves (gs y.opens i)) = true) := by rw [← hkk]; exact hall2
          clear hall2 hkk
          go_wp2
          go_loopw [7] (fun i wv => ∃ (k : Nat) (w4 : World), w4 = wv ∧ k ≤ y.shuts.length ∧ i = .int .i64 k ∧ allTo k (fun i => hasB x.valves (gs y.shuts i)) = true ∧ Below w2.heap.size w2 w4) (fun i _ => y.shuts.length - (intOf i).toNat)
          case atStart => exact ⟨0, _, rfl, Nat.zero_le _, rfl, rfl, Below.refl _ _⟩
          case round =>
            obtain ⟨k4, w4, rfl, hk4, rfl, hall4, hbel4⟩ := hrel
            have hbw4 := hbw2.trans (hbel4.mono hbw2.size)
            have i4 := i2.later hbel4
            have o4 := o2.later hbel4
            have y5 := o4.cell 5 rfl
            by_cases hlt4 : k4 < y.shuts.length
            · obtain ⟨b, o, ha, hb, hc⟩ := (hy.later hbw4).shuts.at hlt4
              subst ha
              have r2 := cell_regrown (i4.cell 2 rfl)
              have s4 := cell_regrown y5
              have rc := cell_regrown hc
              have hcall := fun d os => Calls.regrown_of (w := w4) ((l1Has_any av cv x.valves (gs y.shuts k4) (grow (redrawn w4 d) os) (hx.later (hbw4.trans ((below_regrown w4 d os).mono hbw4.size))).valves fx.valves.1).mono (fun _ _ h => ⟨h.1, h.2 ▸ Below.refl _ _⟩))
              have hlt3 : (k4 : Int) < y.shuts.length := by omega
              clear hc i4 o4
              go_wp2
              refine wp_region_quiet_below (by kernel_rfl) (by kernel_rfl) ?_
              repeat (quiet_step (exact hcall _ _))
              refine wpQuiet_nil ?_
              intro w3 hw'
              obtain ⟨⟨dq, osq⟩, hw''⟩ := hw'
              have hbel3 := hbel4.trans ((hw'' ▸ below_regrown w4 dq osq).mono hbel4.size)
              clear hw'' hcall r2 rc s4
              cases hq : hasB x.valves (gs y.shuts k4) with
              | false =>
                go_wp2
                go_ret
                exact ⟨ret_bool (by unfold knowsB; rw [show allB y.shuts x.valves = false from allTo_false k4 hlt4 hq, Bool.and_false]), hbw2.trans (hbel3.mono hbw2.size)⟩
              | true =>
                go_wp2
                go_roundw
                case rel => exact ⟨k4 + 1, _, rfl, by omega, by go_num, allTo_succ hall4 hq, hbel3⟩
                case measure => simp [intOf]; omega
            · have hkk : k4 = y.shuts.length := by omega
              subst hkk
              go_wp2
              go_ret
              exact ⟨ret_bool (by unfold knowsB; rw [HA1.out, show allB y.opens x.valves = true from HA2.out, show allB y.shuts x.valves = true from hall4]; rfl), hbw4⟩

end Go.Proofs.YtfmhkicncgccjaaGreatDoor
