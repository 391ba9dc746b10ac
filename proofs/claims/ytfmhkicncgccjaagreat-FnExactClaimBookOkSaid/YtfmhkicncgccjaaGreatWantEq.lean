/- What the law's own eqClaimWant answers of two copies of one want. -/
import Derived.Test.YtfmhkicncgccjaaGreatWantL
namespace Go.Proofs.YtfmhkicncgccjaaGreat
open Go.RowKit Go.Sort

theorem eqS_self (s : ByteArray) : eqS s s = true := by unfold eqS; simp
theorem eqSS_self (xs : List ByteArray) : eqSS xs xs = true := by
  unfold eqSS
  rw [decide_eq_true rfl, allTo_iff.2 (fun i _ => eqS_self _)]; rfl
theorem eqU_self (u : Use) : eqU u u = true := by unfold eqU; rw [eqS_self]; simp
theorem eqUU_self (xs : List Use) : eqUU xs xs = true := by
  unfold eqUU
  rw [decide_eq_true rfl, allTo_iff.2 (fun i _ => eqU_self _)]; rfl

set_option maxHeartbeats 2000000 in
theorem eqClaimWant_any (x : Want) (a2 a3 a4 a5 : Option Addr) (c2 c3 c4 c5 : Nat) (e2 e3 e4 e5 : Option Addr) (d2 d3 d4 d5 : Nat) (w : World) (hin : WantIn w x a2 a3 a4 a5) (hie : WantIn w x e2 e3 e4 e5) (hf : WantFit x) :
    Calls Tryz.prog 146 #[wantW x a2 a3 a4 a5 c2 c3 c4 c5, wantW x e2 e3 e4 e5 d2 d3 d4 d5] w fun e w' => e = .returned (.bool true) ∧ Below w.heap.size w w' := by
  unfold wantW
  have b0 : Below w.heap.size w ((w.alloc (.cells #[.int .i64 x.number, .int .i64 x.kind, .slice a2 x.stuffs.length c2, .slice a3 x.uses.length c3, .slice a4 x.opens.length c4, .slice a5 x.shuts.length c5] 38)).alloc (.cells #[.int .i64 x.number, .int .i64 x.kind, .slice e2 x.stuffs.length d2, .slice e3 x.uses.length d3, .slice e4 x.opens.length d4, .slice e5 x.shuts.length d5] 38)) :=
    ((Below.refl _ _).alloc (Nat.le_refl _) _).alloc (by simp) _
  have i0 := (Row.new w 38 [.int .i64 x.number, .int .i64 x.kind, .slice a2 x.stuffs.length c2, .slice a3 x.uses.length c3, .slice a4 x.opens.length c4, .slice a5 x.shuts.length c5]).alloc (.cells #[.int .i64 x.number, .int .i64 x.kind, .slice e2 x.stuffs.length d2, .slice e3 x.uses.length d3, .slice e4 x.opens.length d4, .slice e5 x.shuts.length d5] 38)
  have o0 := Row.new (w.alloc (.cells #[.int .i64 x.number, .int .i64 x.kind, .slice a2 x.stuffs.length c2, .slice a3 x.uses.length c3, .slice a4 x.opens.length c4, .slice a5 x.shuts.length c5] 38)) 38 [.int .i64 x.number, .int .i64 x.kind, .slice e2 x.stuffs.length d2, .slice e3 x.uses.length d3, .slice e4 x.opens.length d4, .slice e5 x.shuts.length d5]
  have hsz : (w.alloc (.cells #[.int .i64 x.number, .int .i64 x.kind, .slice a2 x.stuffs.length c2, .slice a3 x.uses.length c3, .slice a4 x.opens.length c4, .slice a5 x.shuts.length c5] 38)).heap.size = w.heap.size + 1 := by simp
  rw [hsz] at o0
  clear hsz
  have hn : (x.number != x.number) = false := by simp
  have hk : (x.kind != x.kind) = false := by simp
  go_enter Tryz.func146, Tryz.ntmps146
  go_wp2_with fail
  refine (eqStringS_any a2 e2 c2 d2 x.stuffs x.stuffs _ (hin.later b0).stuffs (hie.later b0).stuffs hf.stuffs.1).mono ?_
  rintro e w1 ⟨rfl, hb⟩
  rw [eqSS_self]
  have b1 := b0.trans (hb.mono b0.size)
  have i1 := i0.later hb
  have o1 := o0.later hb
  clear b0 i0 o0 hb
  have p3 := i1.cell 3 rfl
  have p4 := i1.cell 4 rfl
  have p5 := i1.cell 5 rfl
  have q3 := o1.cell 3 rfl
  have q4 := o1.cell 4 rfl
  have q5 := o1.cell 5 rfl
  go_wp2_with fail
  refine (eqClaimUseS_any a3 e3 c3 d3 x.uses x.uses _ (hin.later b1).uses (hie.later b1).uses hf.usesLen).mono ?_
  rintro e w2 ⟨rfl, hb⟩
  rw [eqUU_self]
  have b2 := b1.trans (hb.mono b1.size)
  have i2 := i1.later hb
  have o2 := o1.later hb
  clear b1 i1 o1 hb p3 p4 p5 q3 q4 q5
  have p4 := i2.cell 4 rfl
  have p5 := i2.cell 5 rfl
  have q4 := o2.cell 4 rfl
  have q5 := o2.cell 5 rfl
  go_wp2_with fail
  refine (eqStringS_any a4 e4 c4 d4 x.opens x.opens _ (hin.later b2).opens (hie.later b2).opens hf.opens.1).mono ?_
  rintro e w3 ⟨rfl, hb⟩
  rw [eqSS_self]
  have b3 := b2.trans (hb.mono b2.size)
  have i3 := i2.later hb
  have o3 := o2.later hb
  clear b2 i2 o2 hb p4 p5 q4 q5
  have p5 := i3.cell 5 rfl
  have q5 := o3.cell 5 rfl
  go_wp2_with fail
  refine (eqStringS_any a5 e5 c5 d5 x.shuts x.shuts _ (hin.later b3).shuts (hie.later b3).shuts hf.shuts.1).mono ?_
  rintro e w4 ⟨rfl, hb⟩
  rw [eqSS_self]
  go_wp2
  go_ret
  exact ⟨rfl, b3.trans (hb.mono b3.size)⟩

end Go.Proofs.YtfmhkicncgccjaaGreat
