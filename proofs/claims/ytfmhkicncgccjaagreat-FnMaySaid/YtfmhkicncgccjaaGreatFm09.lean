/- Joined: DrA, OwC. -/
import Derived.Deep.QuietTactic
import Derived.BigQuiet
import Derived.Test.YtfmhkicncgccjaaGreatFm01
import Derived.Test.YtfmhkicncgccjaaGreatFm08
/- The reader of a code: what its pick answers. -/
namespace Go.Proofs.YtfmhkicncgccjaaGreat
open Go.RowKit Go.Sort
set_option linter.unusedSimpArgs false
set_option linter.unusedVariables false

theorem bits_xor_i64_nat (a b : Nat) (ha : a < 4611686018427387904) (hb : b < 4611686018427387904) : bits .xor .i64 (a : Int) (b : Int) = ((a ^^^ b : Nat) : Int) := by
 have hx : a ^^^ b < 2 ^ 62 := Nat.xor_lt_two_pow (by omega) (by omega)
 have h1 : (BitVec.ofInt 64 (a : Int)).toNat = a := by
  rw [BitVec.ofInt_natCast, BitVec.toNat_ofNat]; exact Nat.mod_eq_of_lt (by omega)
 have h2 : (BitVec.ofInt 64 (b : Int)).toNat = b := by
  rw [BitVec.ofInt_natCast, BitVec.toNat_ofNat]; exact Nat.mod_eq_of_lt (by omega)
 show IntKind.i64.wrap ((BitVec.ofInt 64 (a : Int) ^^^ BitVec.ofInt 64 (b : Int)).toNat : Int) = _
 rw [BitVec.toNat_xor, h1, h2, IntKind.wrap_i64]
 omega
theorem Only.drewN {D : Nat → Prop} {w w' : World} (h : Only D w w') (k : Nat) : Only D w (w'.drewN k) := ⟨h.os, h.tape, h.output, h.size, h.block⟩
/-- A reader at the place p: all below its block is as it was. -/
structure Rd (W0 : World) (Rb : Nat) (a : Option Addr) (n cap : Nat) (f : Nat → Nat) (w : World) (p : Int) : Prop where
 row : Row w Rb 92 [.slice a n cap, .int .i64 p]
 below : Below Rb W0 w
 size : W0.heap.size ≤ Rb
 bytes : RowAt W0 a n 1 (fun k _ => .int .u8 (f k))
 small : ∀ k, f k < 256
 len : n ≤ 2000

/-- What is picked below m at the place p. -/
def pickV (f : Nat → Nat) (n : Nat) (p m : Int) : Int :=
 if m < 1 ∨ n = 0 then 0 else if p.toNat < n then (f p.toNat : Int) % m
 else Int.tmod (bits BinOp.xor IntKind.i64 ((f (p.toNat % n) : Int) * 131 + (f ((p.toNat * 7 + 3) % n) : Int) * 1117 + (p.toNat : Int) * 29 + ((p.toNat / n : Nat) : Int) * 53) (((f (p.toNat % n) : Int) * 131 + (f ((p.toNat * 7 + 3) % n) : Int) * 1117 + (p.toNat : Int) * 29 + ((p.toNat / n : Nat) : Int) * 53) / 64)) m

set_option maxRecDepth 100000 in
set_option maxHeartbeats 2000000 in
theorem pick_is (W0 : World) (Rb : Nat) (a : Option Addr) (n cap : Nat) (f : Nat → Nat) (w : World) (p m : Int) (h : Rd W0 Rb a n cap f w p) (h0 : 0 ≤ p) (h1 : p ≤ 1000000000) :
 Calls Tryz.prog 71 #[.pointer (some ⟨Rb, 0, none⟩), .int .i64 m] w fun e w' => (e = .returned (.int .i64 (pickV f n p m)) ∧ 0 ≤ pickV f n p m ∧ (pickV f n p m = 0 ∨ pickV f n p m < m)) ∧ Rd W0 Rb a n cap f w' (p + 1) ∧ Only (fun q => q = Rb) w w' := by
 have PV : Hid (pickV f n p m = pickV f n p m) := rfl
 have d1 : m < 1 → pickV f n p m = 0 := fun h => by unfold pickV; rw [if_pos (Or.inl h)]
 have d2 : n = 0 → pickV f n p m = 0 := fun h => by unfold pickV; rw [if_pos (Or.inr h)]
 have d3 : ¬ m < 1 → ¬ n = 0 → p.toNat < n → pickV f n p m = (f p.toNat : Int) % m := fun h1 h2 h3 => by unfold pickV; rw [if_neg (by omega), if_pos h3]
 have d4 : ¬ m < 1 → ¬ n = 0 → ¬ p.toNat < n → pickV f n p m = Int.tmod (bits BinOp.xor IntKind.i64 ((f (p.toNat % n) : Int) * 131 + (f ((p.toNat * 7 + 3) % n) : Int) * 1117 + (p.toNat : Int) * 29 + ((p.toNat / n : Nat) : Int) * 53) (((f (p.toNat % n) : Int) * 131 + (f ((p.toNat * 7 + 3) % n) : Int) * 1117 + (p.toNat : Int) * 29 + ((p.toNat / n : Nat) : Int) * 53) / 64)) m := fun h1 h2 h3 => by unfold pickV; rw [if_neg (by omega), if_neg h3]
 generalize pickV f n p m = V at d1 d2 d3 d4 ⊢
 clear PV
 obtain ⟨hr, hbl, hsz, hby, hsm, hln⟩ := h
 have g0 := hr.cell 0 rfl
 have g1 := hr.cell 1 rfl
 have g1f := hr.frozen 1
 have hw1 : wrap64 (p + 1) = p + 1 := by unfold wrap64; omega
 have hw2 : wrap64 (p + 1 - 1) = p := by unfold wrap64; omega
 have hr1 := hr.set 1 (.int .i64 (p + 1))
 have on1 : Only (fun q => q = Rb) w (w.setCell ⟨Rb, 1, none⟩ (.int .i64 (p + 1))) := Only.cell w ⟨Rb, 1, none⟩ _
 have hbl1 := hbl.trans (on1.below (n := Rb) (fun q hq => by have e : q = Rb := hq; omega) (by have := hr.lt; omega))
 have FIN : Hid (Rd W0 Rb a n cap f (w.setCell ⟨Rb, 1, none⟩ (.int .i64 (p + 1))) (p + 1) ∧ Only (fun q => q = Rb) w (w.setCell ⟨Rb, 1, none⟩ (.int .i64 (p + 1)))) := ⟨⟨hr1, hbl1, hsz, hby, hsm, hln⟩, on1⟩
 have hby1 := hby.later (hbl1.mono hsz)
 by_cases hm1 : m < 1
 · have DV : Hid (V = 0) := d1 hm1
   clear d1 d2 d3 d4
   go_enter Tryz.func71, Tryz.ntmps71
   go_wp2
   go_ret
   rw [DV.out]
   exact ⟨⟨rfl, by omega, Or.inl rfl⟩, FIN.out.1, FIN.out.2⟩
 · by_cases hn0 : n = 0
   · have DV : Hid (V = 0) := d2 hn0
     clear d1 d2 d3 d4
     subst hn0
     go_enter Tryz.func71, Tryz.ntmps71
     go_wp2
     go_ret
     rw [DV.out]
     exact ⟨⟨rfl, by omega, Or.inl rfl⟩, FIN.out.1, FIN.out.2⟩
   · have hn0b : ¬ ((n : Int) = 0) := by omega
     have hm0 : ¬ (m = 0) := by omega
     obtain ⟨P, rfl⟩ : ∃ P : Nat, p = P := ⟨p.toNat, by omega⟩
     by_cases hlt : P < n
     · have dV : V = (f P : Int) % m := d3 hm1 hn0 hlt
       have DV : Hid (V = (f P : Int) % m) := dV
       clear d1 d2 d3 d4 dV
       obtain ⟨b, o, ha, hb, hc⟩ := hby1 P hlt
       subst ha
       have hc0 := hc 0 (by omega)
       simp only [Nat.mul_one, Nat.add_zero] at hc0
       have hlt2 : (P : Int) < n := by omega
       have hf := hsm P
       go_enter Tryz.func71, Tryz.ntmps71
       go_wp2
       go_ret
       rw [DV.out]
       exact ⟨⟨rfl, Int.emod_nonneg _ hm0, Or.inr (Int.emod_lt_of_pos _ (by omega))⟩, FIN.out.1, FIN.out.2⟩
     · have hlt2 : ¬ (P : Int) < n := by omega
       have dV := d4 hm1 hn0 hlt
       clear d1 d2 d3 d4
       obtain ⟨i1, hi1, hl1, ei1⟩ : ∃ i : Nat, (P : Int) % n = i ∧ i < n ∧ (P : Int).toNat % n = i := ⟨P % n, by simp, Nat.mod_lt _ (by omega), by simp⟩
       obtain ⟨i2, hi2, hl2, ei2⟩ : ∃ i : Nat, ((P : Int) * 7 + 3) % n = i ∧ i < n ∧ ((P : Int).toNat * 7 + 3) % n = i := ⟨(P * 7 + 3) % n, by simp, Nat.mod_lt _ (by omega), by simp⟩
       obtain ⟨i3, hi3, hl3, ei3⟩ : ∃ i : Nat, (P : Int) / n = i ∧ i ≤ P ∧ (P : Int).toNat / n = i := ⟨P / n, by simp, Nat.div_le_self _ _, by simp⟩
       rw [ei1, ei2, ei3] at dV
       have DV : Hid (V = Int.tmod (bits BinOp.xor IntKind.i64 ((f i1 : Int) * 131 + (f i2 : Int) * 1117 + (P : Int) * 29 + (i3 : Int) * 53) (((f i1 : Int) * 131 + (f i2 : Int) * 1117 + (P : Int) * 29 + (i3 : Int) * 53) / 64)) m) := dV
       clear dV ei1 ei2 ei3
       obtain ⟨b, o, ha, hb, hc⟩ := hby1 i1 hl1
       subst ha
       have hc0 := hc 0 (by omega)
       obtain ⟨b', o', ha', hb', hc'⟩ := hby1 i2 hl2
       cases ha'
       have hd0 := hc' 0 (by omega)
       simp only [Nat.mul_one, Nat.add_zero] at hc0 hd0
       have hf1 := hsm i1
       have hf2 := hsm i2
       have l1 : (i1 : Int) < n := by omega
       have l2 : (i2 : Int) < n := by omega
       have z1 : wrap64 ((P : Int) * 7) = (P : Int) * 7 := by unfold wrap64; omega
       have z2 : wrap64 ((P : Int) * 7 + 3) = (P : Int) * 7 + 3 := by unfold wrap64; omega
       have z3 : wrap64 ((f i1 : Int) * 131) = (f i1 : Int) * 131 := by unfold wrap64; omega
       have z4 : wrap64 ((f i2 : Int) * 1117) = (f i2 : Int) * 1117 := by unfold wrap64; omega
       have z5 : wrap64 ((f i1 : Int) * 131 + (f i2 : Int) * 1117) = (f i1 : Int) * 131 + (f i2 : Int) * 1117 := by unfold wrap64; omega
       have z6 : wrap64 ((P : Int) * 29) = (P : Int) * 29 := by unfold wrap64; omega
       have z7 : wrap64 ((f i1 : Int) * 131 + (f i2 : Int) * 1117 + (P : Int) * 29) = (f i1 : Int) * 131 + (f i2 : Int) * 1117 + (P : Int) * 29 := by unfold wrap64; omega
       have z8 : wrap64 ((i3 : Int) * 53) = (i3 : Int) * 53 := by unfold wrap64; omega
       have z9 : wrap64 ((f i1 : Int) * 131 + (f i2 : Int) * 1117 + (P : Int) * 29 + (i3 : Int) * 53) = (f i1 : Int) * 131 + (f i2 : Int) * 1117 + (P : Int) * 29 + (i3 : Int) * 53 := by unfold wrap64; omega
       clear hc hc' hby1 hby hbl1 on1 hr1
       go_enter Tryz.func71, Tryz.ntmps71
       go_wp2
       have hxor : 0 ≤ bits BinOp.xor IntKind.i64 ((f i1 : Int) * 131 + (f i2 : Int) * 1117 + (P : Int) * 29 + (i3 : Int) * 53) (((f i1 : Int) * 131 + (f i2 : Int) * 1117 + (P : Int) * 29 + (i3 : Int) * 53) / 64) := by
        have e1 : (f i1 : Int) * 131 + (f i2 : Int) * 1117 + (P : Int) * 29 + (i3 : Int) * 53 = ((f i1 * 131 + f i2 * 1117 + P * 29 + i3 * 53 : Nat) : Int) := by omega
        have e2 : (((f i1 * 131 + f i2 * 1117 + P * 29 + i3 * 53 : Nat) : Int)) / 64 = (((f i1 * 131 + f i2 * 1117 + P * 29 + i3 * 53) / 64 : Nat) : Int) := by omega
        rw [e1, e2, bits_xor_i64_nat _ _ (by omega) (by omega)]
        omega
       have HX : Hid _ := hxor
       clear hxor
       go_quiet (fail)
       go_wp2
       go_ret
       rw [DV.out]
       refine ⟨⟨rfl, Int.tmod_nonneg _ HX.out, Or.inr (Int.tmod_lt_of_pos _ (by omega))⟩, ⟨FIN.out.1.row, ?_, hsz, FIN.out.1.bytes, hsm, hln⟩, FIN.out.2.drewN _⟩
       exact below_drewN FIN.out.1.below _

theorem pick_any (W0 : World) (Rb : Nat) (a : Option Addr) (n cap : Nat) (f : Nat → Nat) (w : World) (p m : Int) (h : Rd W0 Rb a n cap f w p) (h0 : 0 ≤ p) (h1 : p ≤ 1000000000) :
 Calls Tryz.prog 71 #[.pointer (some ⟨Rb, 0, none⟩), .int .i64 m] w fun e w' => (∃ v : Int, e = .returned (.int .i64 v) ∧ 0 ≤ v ∧ (v = 0 ∨ v < m)) ∧ Rd W0 Rb a n cap f w' (p + 1) ∧ Only (fun q => q = Rb) w w' :=
 (pick_is W0 Rb a n cap f w p m h h0 h1).mono fun e w' ⟨⟨h1, h2, h3⟩, h4⟩ => ⟨⟨_, h1, h2, h3⟩, h4⟩

end Go.Proofs.YtfmhkicncgccjaaGreat

/- Copies that own their memory: wants and parts. -/
namespace Go.Proofs.YtfmhkicncgccjaaGreat
open Go.RowKit Go.Sort
set_option linter.unusedSimpArgs false
set_option linter.unusedVariables false

end Go.Proofs.YtfmhkicncgccjaaGreat

