/- Joined: UsesB. -/
import Derived.Test.YtfmhkicncgccjaaGreatFm02
/- What usesOk, kinded and listsOfKindOk answer. -/
namespace Go.Proofs.YtfmhkicncgccjaaGreat
open Go.RowKit Go.Sort

def wantV (n k : Int) (v2 v3 v4 v5 : Value) : Value := .agg #[.int .i64 n, .int .i64 k, v2, v3, v4, v5]

/-- A want behind the type of its kind. -/
def kindV (k : Int) (c : Array Value) : Value :=
 if k == 1 then .iface 160 (.agg c) else if k == 2 then .iface 159 (.agg c) else if k == 3 then .iface 172 (.agg c) else .nilIface

set_option maxHeartbeats 400000 in
theorem kinded_any (n k : Int) (v2 v3 v4 v5 : Value) (w : World) (_h2 : v2.oneCell' = true) (_h3 : v3.oneCell' = true) (_h4 : v4.oneCell' = true) (_h5 : v5.oneCell' = true) :
 Calls Tryz.prog 138 #[wantV n k v2 v3 v4 v5] w fun e w' => e = .returned (kindV k #[.int .i64 n, .int .i64 k, v2, v3, v4, v5]) ∧ Below w.heap.size w w' := by
 unfold wantV kindV
 go_enter Tryz.func138, Tryz.ntmps138
 go_wp2
 all_goals go_ret
 all_goals exact ⟨rfl, (Below.refl _ _).alloc (Nat.le_refl _) _⟩

/-- A use at its place, as usesOk asks: rb says which roles there are. -/
def useAtB (rb : Int → Bool) (us : List Use) (k : Nat) : Bool := nameB (gu us k).name && rb (gu us k).role && amountB (gu us k)
def usesB (rb : Int → Bool) (us : List Use) : Bool := decide ((us.length : Int) ≤ 8) && allTo us.length (useAtB rb us) && ascUB us

theorem usesB_many {rb : Int → Bool} {us : List Use} (h : 8 < (us.length : Int)) : usesB rb us = false := by
 unfold usesB; rw [decide_eq_false (by omega)]; rfl
theorem usesB_bad {rb : Int → Bool} {us : List Use} (k : Nat) (hk : k < us.length) (h : useAtB rb us k = false) : usesB rb us = false := by
 unfold usesB; rw [allTo_false k hk h, Bool.and_false]; rfl

set_option maxHeartbeats 800000 in
theorem usesOk_with (T : TypeId) (g : FuncId) (rb : Int → Bool) (c : Array Value)
 (hmeth : ∀ w : World, (method 307 T (.agg c) "loop.example/maltclaim/impl.takesRole").run Tryz.prog w = .ok (g, .agg c) w)
 (hent : ∀ args (w : World), (callFunc g args).run Tryz.prog w = .ok (.enter g args) w)
 (htake : ∀ (role : Int) (w : World), Calls Tryz.prog g #[.agg c, .int .i64 role] w fun e w' => e = .returned (.bool (rb role)) ∧ Below w.heap.size w w')
 (a : Option Addr) (cap : Nat) (us : List Use) (w : World) (hm : UsesAt w a us) (hl : us.length ≤ maxLen) (hs : ∀ u ∈ us, u.name.size ≤ maxLen) :
 Calls Tryz.prog 140 #[.iface T (.agg c), .slice a us.length cap] w fun e w' => e = .returned (.bool (usesB rb us)) ∧ Below w.heap.size w w' := by
 have hl' := hl
 unfold maxLen at hl
 by_cases hmany : 8 < (us.length : Int)
 · go_enter Tryz.func140, Tryz.ntmps140
   go_wp2
   go_ret
   exact ⟨ret_bool (usesB_many hmany).symm, Below.refl _ _⟩
 · have HT := htake
   have HTT : Hid (∀ (role : Int) (w : World), Calls Tryz.prog g #[.agg c, .int .i64 role] w fun e w' => e = .returned (.bool (rb role)) ∧ Below w.heap.size w w') := HT
   clear HT htake
   go_enter Tryz.func140, Tryz.ntmps140
   go_wp2
   go_loopw [6, 12] (fun _ i wr => ∃ (k : Nat), k ≤ us.length ∧ i = .int .i64 k ∧ allTo k (useAtB rb us) = true ∧ Below w.heap.size w wr) (fun _ i _ => us.length - (intOf i).toNat)
   case atStart => exact ⟨0, Nat.zero_le _, rfl, rfl, Below.refl _ _⟩
   case round wr =>
    obtain ⟨k, hk, rfl, hall, hbel⟩ := hrel
    by_cases hlt : k < us.length
    · obtain ⟨b, o, ha, hb, hc0, hc1, hc2⟩ := (hm.later hbel).at hlt
      have hsz : (gu us k).name.size ≤ maxLen := hs _ (gu_mem hlt)
      clear hs
      subst ha
      cases hq : nameB (gu us k).name with
      | false =>
       go_wp2_with (go_at_call 92; refine (nameOk_any _ _ hsz).mono ?_; rintro e w1 ⟨rfl, hb1⟩; rw [hq])
       go_ret
       exact ⟨ret_bool (usesB_bad k hlt (by unfold useAtB; rw [hq]; rfl)).symm, hbel.trans ((below_over hb1).mono hbel.size)⟩
      | true =>
       go_wp2_with (go_at_call 92; refine (nameOk_any _ _ hsz).mono ?_; rintro e w1 ⟨rfl, hb1⟩; rw [hq]; obtain ⟨q0, q1, q2, hz⟩ := box3 hb1)
       have hb2 := hbel.trans ((below_over hb1).mono hbel.size)
       refine (HTT.out (gu us k).role _).mono ?_
       rintro e w2 ⟨rfl, hbb⟩
       have p0 := cell_later hbb q0
       have p1 := cell_later hbb q1
       have p2 := cell_later hbb q2
       have hb3 : Below w.heap.size w w2 := hb2.trans (hbb.mono hb2.size)
       clear hb1 hbb q0 q1 q2 hb2
       cases hq2 : rb (gu us k).role with
       | false =>
        go_wp2
        go_ret
        exact ⟨ret_bool (usesB_bad k hlt (by unfold useAtB; rw [hq, hq2]; rfl)).symm, hb3⟩
       | true =>
        go_wp2_with fail
        refine (amountOk_any (gu us k) _).mono ?_
        rintro e w3 ⟨rfl, hbb⟩
        have hb4 : Below w.heap.size w w3 := hb3.trans (hbb.mono hb3.size)
        clear hbb hb3
        cases hq3 : amountB (gu us k) with
        | false =>
         go_wp2
         go_ret
         exact ⟨ret_bool (usesB_bad k hlt (by unfold useAtB; rw [hq, hq2, hq3]; rfl)).symm, hb4⟩
        | true =>
         go_wp2
         go_roundw
         case rel => exact ⟨k + 1, by omega, by go_num, allTo_succ hall (by unfold useAtB; rw [hq, hq2, hq3]; rfl), hb4⟩
         case measure => simp [intOf]; omega
    · have : k = us.length := by omega
      subst this
      have hm' := hm.later hbel
      go_wp2_with (go_at_call 159; refine (ascendingU_any a cap us _ hm' hl').mono ?_; rintro e w1 ⟨rfl, hb1⟩)
      go_ret
      refine ⟨ret_bool ?_, hbel.trans (hb1.mono hbel.size)⟩
      unfold usesB
      rw [hall, decide_eq_true (by omega)]; rfl

theorem method_move (c : Array Value) (w : World) : (method 307 160 (.agg c) "loop.example/maltclaim/impl.takesRole").run Tryz.prog w = .ok (194, .agg c) w := by kernel_rfl
theorem method_clean (c : Array Value) (w : World) : (method 307 159 (.agg c) "loop.example/maltclaim/impl.takesRole").run Tryz.prog w = .ok (193, .agg c) w := by kernel_rfl
theorem method_permit (c : Array Value) (w : World) : (method 307 172 (.agg c) "loop.example/maltclaim/impl.takesRole").run Tryz.prog w = .ok (195, .agg c) w := by kernel_rfl
theorem enter_move (args : Array Value) (w : World) : (callFunc 194 args).run Tryz.prog w = .ok (.enter 194 args) w := by kernel_rfl
theorem enter_clean (args : Array Value) (w : World) : (callFunc 193 args).run Tryz.prog w = .ok (.enter 193 args) w := by kernel_rfl
theorem enter_permit (args : Array Value) (w : World) : (callFunc 195 args).run Tryz.prog w = .ok (.enter 195 args) w := by kernel_rfl

theorem usesOk_any (kind : Int) (hkind : kind = 1 ∨ kind = 2 ∨ kind = 3) (c : Array Value) (a : Option Addr) (cap : Nat) (us : List Use) (w : World) (hm : UsesAt w a us) (hl : us.length ≤ maxLen) (hs : ∀ u ∈ us, u.name.size ≤ maxLen) :
 Calls Tryz.prog 140 #[kindV kind c, .slice a us.length cap] w fun e w' => e = .returned (.bool (usesB (roleB kind) us)) ∧ Below w.heap.size w w' := by
 rcases hkind with rfl | rfl | rfl
 · exact usesOk_with 160 194 _ c (method_move c) enter_move (fun role w => takes_move c role w) a cap us w hm hl hs
 · exact usesOk_with 159 193 _ c (method_clean c) enter_clean (fun role w => takes_clean c role w) a cap us w hm hl hs
 · exact usesOk_with 172 195 _ c (method_permit c) enter_permit (fun role w => takes_permit c role w) a cap us w hm hl hs

/-- Which lists a kind has. -/
def listsB (k : Int) (n2 n4 : Nat) : Bool := if k == 1 then decide (0 < n2) else if k == 2 || k == 3 then decide (n2 = 0) && decide (n4 = 0) else false

theorem ta_move_move (v : Value) (w : World) : (Instr.typeAssert (.iface 160 v) 152 160 true).run Tryz.prog w = .ok (.tuple #[v, .bool true]) w := by kernel_rfl
theorem ta_move_clean (v : Value) (w : World) : (Instr.typeAssert (.iface 160 v) 152 159 true).run Tryz.prog w = .ok (.tuple #[.agg #[.int .i64 0, .int .i64 0, .slice none 0 0, .slice none 0 0, .slice none 0 0, .slice none 0 0], .bool false]) w := by kernel_rfl
theorem ta_clean_move (v : Value) (w : World) : (Instr.typeAssert (.iface 159 v) 152 160 true).run Tryz.prog w = .ok (.tuple #[.agg #[.int .i64 0, .int .i64 0, .slice none 0 0, .slice none 0 0, .slice none 0 0, .slice none 0 0], .bool false]) w := by kernel_rfl
theorem ta_clean_clean (v : Value) (w : World) : (Instr.typeAssert (.iface 159 v) 152 159 true).run Tryz.prog w = .ok (.tuple #[v, .bool true]) w := by kernel_rfl
theorem ta_permit_move (v : Value) (w : World) : (Instr.typeAssert (.iface 172 v) 152 160 true).run Tryz.prog w = .ok (.tuple #[.agg #[.int .i64 0, .int .i64 0, .slice none 0 0, .slice none 0 0, .slice none 0 0, .slice none 0 0], .bool false]) w := by kernel_rfl
theorem ta_permit_clean (v : Value) (w : World) : (Instr.typeAssert (.iface 172 v) 152 159 true).run Tryz.prog w = .ok (.tuple #[.agg #[.int .i64 0, .int .i64 0, .slice none 0 0, .slice none 0 0, .slice none 0 0, .slice none 0 0], .bool false]) w := by kernel_rfl
theorem ta_permit_permit (v : Value) (w : World) : (Instr.typeAssert (.iface 172 v) 152 172 true).run Tryz.prog w = .ok (.tuple #[v, .bool true]) w := by kernel_rfl
theorem ta_nil_move (w : World) : (Instr.typeAssert .nilIface 152 160 true).run Tryz.prog w = .ok (.tuple #[.agg #[.int .i64 0, .int .i64 0, .slice none 0 0, .slice none 0 0, .slice none 0 0, .slice none 0 0], .bool false]) w := by kernel_rfl
theorem ta_nil_clean (w : World) : (Instr.typeAssert .nilIface 152 159 true).run Tryz.prog w = .ok (.tuple #[.agg #[.int .i64 0, .int .i64 0, .slice none 0 0, .slice none 0 0, .slice none 0 0, .slice none 0 0], .bool false]) w := by kernel_rfl
theorem ta_nil_permit (w : World) : (Instr.typeAssert .nilIface 152 172 true).run Tryz.prog w = .ok (.tuple #[.agg #[.int .i64 0, .int .i64 0, .slice none 0 0, .slice none 0 0, .slice none 0 0, .slice none 0 0], .bool false]) w := by kernel_rfl

set_option maxHeartbeats 400000 in
theorem lists_any (k n kk : Int) (a2 a3 a4 a5 : Option Addr) (n2 n3 n4 n5 c2 c3 c4 c5 : Nat) (w : World) :
 Calls Tryz.prog 139 #[kindV k #[.int .i64 n, .int .i64 kk, .slice a2 n2 c2, .slice a3 n3 c3, .slice a4 n4 c4, .slice a5 n5 c5]] w fun e w' => e = .returned (.bool (listsB k n2 n4)) ∧ Below w.heap.size w w' := by
 have t1 := ta_move_move
 have t2 := ta_clean_move
 have t3 := ta_clean_clean
 have t4 := ta_permit_move
 have t5 := ta_permit_clean
 have t6 := ta_permit_permit
 have t7 := ta_nil_move
 have t8 := ta_nil_clean
 have t9 := ta_nil_permit
 by_cases h1 : k = 1
 · subst h1
   show Calls Tryz.prog 139 #[.iface 160 (.agg #[.int .i64 n, .int .i64 kk, .slice a2 n2 c2, .slice a3 n3 c3, .slice a4 n4 c4, .slice a5 n5 c5])] w _
   go_enter Tryz.func139, Tryz.ntmps139
   go_wp2
   go_ret
   exact ⟨ret_bool (by simp [listsB]), (Below.refl _ _).alloc (Nat.le_refl _) _⟩
 by_cases h2 : k = 2
 · subst h2
   show Calls Tryz.prog 139 #[.iface 159 (.agg #[.int .i64 n, .int .i64 kk, .slice a2 n2 c2, .slice a3 n3 c3, .slice a4 n4 c4, .slice a5 n5 c5])] w _
   by_cases z : n2 = 0
   · subst z
     go_enter Tryz.func139, Tryz.ntmps139
     go_wp2
     go_ret
     exact ⟨ret_bool (by rw [Bool.eq_iff_iff]; simp [listsB]), (Below.refl _ _).alloc (Nat.le_refl _) _⟩
   · have z' : ((n2 : Int) == 0) = false := by simp [z]
     go_enter Tryz.func139, Tryz.ntmps139
     go_wp2
     go_ret
     exact ⟨ret_bool (by simp [listsB, z]), (Below.refl _ _).alloc (Nat.le_refl _) _⟩
 by_cases h3 : k = 3
 · subst h3
   show Calls Tryz.prog 139 #[.iface 172 (.agg #[.int .i64 n, .int .i64 kk, .slice a2 n2 c2, .slice a3 n3 c3, .slice a4 n4 c4, .slice a5 n5 c5])] w _
   by_cases z : n2 = 0
   · subst z
     go_enter Tryz.func139, Tryz.ntmps139
     go_wp2
     go_ret
     exact ⟨ret_bool (by rw [Bool.eq_iff_iff]; simp [listsB]), (Below.refl _ _).alloc (Nat.le_refl _) _⟩
   · have z' : ((n2 : Int) == 0) = false := by simp [z]
     go_enter Tryz.func139, Tryz.ntmps139
     go_wp2
     go_ret
     exact ⟨ret_bool (by simp [listsB, z]), (Below.refl _ _).alloc (Nat.le_refl _) _⟩
 · have hk : kindV k #[.int .i64 n, .int .i64 kk, .slice a2 n2 c2, .slice a3 n3 c3, .slice a4 n4 c4, .slice a5 n5 c5] = .nilIface := by simp [kindV, h1, h2, h3]
   rw [hk]
   go_enter Tryz.func139, Tryz.ntmps139
   go_wp2
   go_ret
   exact ⟨ret_bool (by simp [listsB, h1, h2, h3]), Below.refl _ _⟩

end Go.Proofs.YtfmhkicncgccjaaGreat

