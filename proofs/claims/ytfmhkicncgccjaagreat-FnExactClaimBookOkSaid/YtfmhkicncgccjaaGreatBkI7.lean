/- What the program's mayFits and placeOk answer. -/
import Derived.Test.YtfmhkicncgccjaaGreatBkI6
namespace Go.Proofs.YtfmhkicncgccjaaGreat
open Go.RowKit Go.Sort
set_option linter.unusedSimpArgs false
set_option linter.unusedVariables false

def fitsB (may stuffs : List ByteArray) (role : Int) : Bool := if role == 1 then allB may stuffs else if role == 2 then allB stuffs may else allB may stuffs && allB stuffs may

set_option maxHeartbeats 1000000 in
theorem mayFits_any (a b : Option Addr) (ca cb : Nat) (may stuffs : List ByteArray) (role : Int) (w : World) (hx : StrsAt w a may) (hy : StrsAt w b stuffs) (lx : may.length ≤ maxLen) (ly : stuffs.length ≤ maxLen) :
    Calls Tryz.prog 143 #[.slice a may.length ca, .slice b stuffs.length cb, .int .i64 role] w fun e w' => e = .returned (.bool (fitsB may stuffs role)) ∧ w = w' := by
  by_cases h1 : role = 1
  · have e1 : (role == 1) = true := by simp [h1]
    have H1 : Hid (role = 1) := h1
    clear h1
    go_enter Tryz.func143, Tryz.ntmps143
    go_wp2_with fail
    refine (allIn_any a b ca cb may stuffs _ hx hy lx ly).mono ?_
    rintro e w1 ⟨rfl, rfl⟩
    go_wp2
    go_ret
    exact ⟨ret_bool (by simp [fitsB, H1.out]), rfl⟩
  have e1 : (role == 1) = false := by simp [h1]
  have H1 : Hid (¬ role = 1) := h1
  clear h1
  by_cases h2 : role = 2
  · have e2 : (role == 2) = true := by simp [h2]
    have H2 : Hid (role = 2) := h2
    clear h2
    go_enter Tryz.func143, Tryz.ntmps143
    go_wp2_with fail
    refine (allIn_any b a cb ca stuffs may _ hy hx ly lx).mono ?_
    rintro e w1 ⟨rfl, rfl⟩
    go_wp2
    go_ret
    exact ⟨ret_bool (by simp [fitsB, H2.out]), rfl⟩
  have e2 : (role == 2) = false := by simp [h2]
  have H2 : Hid (¬ role = 2) := h2
  clear h2
  go_enter Tryz.func143, Tryz.ntmps143
  go_wp2_with fail
  refine (allIn_any a b ca cb may stuffs _ hx hy lx ly).mono ?_
  rintro e w1 ⟨rfl, rfl⟩
  cases hq : allB may stuffs with
  | false =>
    go_wp2
    go_ret
    exact ⟨ret_bool (by simp [fitsB, H1.out, H2.out, hq]), rfl⟩
  | true =>
  go_wp2_with fail
  refine (allIn_any b a cb ca stuffs may _ hy hx ly lx).mono ?_
  rintro e w1 ⟨rfl, rfl⟩
  go_wp2
  go_ret
  exact ⟨ret_bool (by simp [fitsB, H1.out, H2.out, hq]), rfl⟩

theorem ta_move_clean' (v : Value) (w : World) : (Instr.typeAssert (.iface 160 v) 152 159 true).run Tryz.prog w = .ok (.tuple #[.agg #[.int .i64 0, .int .i64 0, .slice none 0 0, .slice none 0 0, .slice none 0 0, .slice none 0 0], .bool false]) w := ta_move_clean v w

/-- What the program's placeOk asks. -/
def placeB (s : Spot) (y : Want) (u : Use) : Bool :=
  decide (s.least + u.amount ≤ s.most) && (if y.kind == 2 then s.most == 0 else if y.kind == 1 then fitsB s.may y.stuffs u.role else true)

theorem place_same {s : Spot} {y : Want} {u : Use} (g1 : 0 ≤ s.least) (g3 : 0 ≤ u.amount) : placeB s y u = useOkB s y u := by
  unfold placeB useOkB fitsB
  by_cases h : s.least + u.amount ≤ s.most
  · rw [decide_eq_true h, Bool.true_and, Bool.and_true]
    by_cases k2 : y.kind = 2
    · have : (s.most == 0) = !decide (0 < s.most) := by rw [Bool.eq_iff_iff]; simp; omega
      simp [k2, this]
    by_cases k1 : y.kind = 1
    · by_cases r1 : u.role = 1
      · simp [k1, r1]
      by_cases r2 : u.role = 2
      · simp [k1, r2]
      have e1 : (u.role == 1) = false := by simp [r1]
      have e2 : (u.role == 2) = false := by simp [r2]
      simp [k1, e1, e2]
    simp [k1, k2]
  · rw [decide_eq_false h]; simp

set_option maxRecDepth 100000 in
set_option maxHeartbeats 2000000 in
theorem placeOk_any (s : Spot) (m : Option Addr) (c : Nat) (y : Want) (a2 a3 a4 a5 : Option Addr) (c2 c3 c4 c5 : Nat) (u : Use) (w : World) (hs : StrsAt w m s.may) (hy : StrsAt w a2 y.stuffs) (ls : s.may.length ≤ maxLen) (ly : y.stuffs.length ≤ maxLen)
    (g1 : 0 ≤ s.least) (g2 : s.least ≤ 1000) (g3 : 0 ≤ u.amount) (g4 : u.amount ≤ 1000) :
    Calls Tryz.prog 108 #[spotV s m c, wantW y a2 a3 a4 a5 c2 c3 c4 c5, useV u] w fun e w' => e = .returned (.bool (useOkB s y u)) ∧ Below w.heap.size w w' := by
  rw [← place_same g1 g3]
  unfold spotV wantW useV
  have b0 : Below w.heap.size w (((w.alloc (.cells #[.string s.name, .int .i64 s.cap, .int .i64 s.least, .int .i64 s.most, .slice m s.may.length c] 72)).alloc (.cells #[.int .i64 y.number, .int .i64 y.kind, .slice a2 y.stuffs.length c2, .slice a3 y.uses.length c3, .slice a4 y.opens.length c4, .slice a5 y.shuts.length c5] 38)).alloc (.cells #[.string u.name, .int .i64 u.role, .int .i64 u.amount] 101)) :=
    (((Below.refl _ _).alloc (Nat.le_refl _) _).alloc (by simp) _).alloc (by simp; omega) _
  have si : Row (((w.alloc (.cells #[.string s.name, .int .i64 s.cap, .int .i64 s.least, .int .i64 s.most, .slice m s.may.length c] 72)).alloc (.cells #[.int .i64 y.number, .int .i64 y.kind, .slice a2 y.stuffs.length c2, .slice a3 y.uses.length c3, .slice a4 y.opens.length c4, .slice a5 y.shuts.length c5] 38)).alloc (.cells #[.string u.name, .int .i64 u.role, .int .i64 u.amount] 101)) w.heap.size 72 [.string s.name, .int .i64 s.cap, .int .i64 s.least, .int .i64 s.most, .slice m s.may.length c] := ((Row.new _ _ _).alloc _).alloc _
  have ui : Row (((w.alloc (.cells #[.string s.name, .int .i64 s.cap, .int .i64 s.least, .int .i64 s.most, .slice m s.may.length c] 72)).alloc (.cells #[.int .i64 y.number, .int .i64 y.kind, .slice a2 y.stuffs.length c2, .slice a3 y.uses.length c3, .slice a4 y.opens.length c4, .slice a5 y.shuts.length c5] 38)).alloc (.cells #[.string u.name, .int .i64 u.role, .int .i64 u.amount] 101)) (w.heap.size + 1 + 1) 101 [.string u.name, .int .i64 u.role, .int .i64 u.amount] := by
    have := Row.new ((w.alloc (.cells #[.string s.name, .int .i64 s.cap, .int .i64 s.least, .int .i64 s.most, .slice m s.may.length c] 72)).alloc (.cells #[.int .i64 y.number, .int .i64 y.kind, .slice a2 y.stuffs.length c2, .slice a3 y.uses.length c3, .slice a4 y.opens.length c4, .slice a5 y.shuts.length c5] 38)) 101 [.string u.name, .int .i64 u.role, .int .i64 u.amount]
    simpa using this
  have t1 := ta_clean_clean
  have t2 := ta_move_clean
  have t3 := ta_move_move
  have t4 := ta_permit_clean
  have t5 := ta_permit_move
  have t6 := ta_nil_clean
  have t7 := ta_nil_move
  by_cases h : s.least + u.amount ≤ s.most
  case neg =>
    have h' : s.most < s.least + u.amount := by omega
    clear h
    go_enter Tryz.func108, Tryz.ntmps108
    go_wp2
    go_ret
    exact ⟨ret_bool (by unfold placeB; rw [decide_eq_false (by omega)]; rfl), b0⟩
  have h' : ¬ s.most < s.least + u.amount := by omega
  have HD : Hid (decide (s.least + u.amount ≤ s.most) = true) := decide_eq_true h
  go_enter Tryz.func108, Tryz.ntmps108
  go_wp2_with fail
  refine (kinded_any y.number y.kind (.slice a2 y.stuffs.length c2) (.slice a3 y.uses.length c3) (.slice a4 y.opens.length c4) (.slice a5 y.shuts.length c5) _ rfl rfl rfl rfl).mono ?_
  rintro e w1 ⟨rfl, hb⟩
  have b1 := b0.trans (hb.mono b0.size)
  have y3 := (si.later hb).cell 3 rfl
  have y4 := (si.later hb).cell 4 rfl
  have z1 := (ui.later hb).cell 1 rfl
  have hz1 := (si.later hb).lt
  have hz2 := (ui.later hb).lt
  clear b0 si ui hb
  by_cases k2 : y.kind = 2
  · have hk : kindV y.kind #[.int .i64 y.number, .int .i64 y.kind, .slice a2 y.stuffs.length c2, .slice a3 y.uses.length c3, .slice a4 y.opens.length c4, .slice a5 y.shuts.length c5] = .iface 159 (.agg #[.int .i64 y.number, .int .i64 y.kind, .slice a2 y.stuffs.length c2, .slice a3 y.uses.length c3, .slice a4 y.opens.length c4, .slice a5 y.shuts.length c5]) := by simp [kindV, k2]
    rw [hk]
    have HK : Hid (y.kind = 2) := k2
    clear k2 hk
    go_wp2
    go_ret
    exact ⟨ret_bool (by simp [placeB, HD.out, HK.out]), b1.alloc b1.size _⟩
  by_cases k1 : y.kind = 1
  · have hk : kindV y.kind #[.int .i64 y.number, .int .i64 y.kind, .slice a2 y.stuffs.length c2, .slice a3 y.uses.length c3, .slice a4 y.opens.length c4, .slice a5 y.shuts.length c5] = .iface 160 (.agg #[.int .i64 y.number, .int .i64 y.kind, .slice a2 y.stuffs.length c2, .slice a3 y.uses.length c3, .slice a4 y.opens.length c4, .slice a5 y.shuts.length c5]) := by simp [kindV, k1]
    rw [hk]
    have HK : Hid (y.kind = 1) := k1
    clear k1 hk k2
    have b2 : Below w.heap.size w (w1.alloc (.cells #[.int .i64 y.number, .int .i64 y.kind, .slice a2 y.stuffs.length c2, .slice a3 y.uses.length c3, .slice a4 y.opens.length c4, .slice a5 y.shuts.length c5] 160)) := b1.alloc b1.size _
    go_wp2_with fail
    refine (mayFits_any m a2 c c2 s.may y.stuffs u.role _ (hs.later b2) (hy.later b2) ls ly).mono ?_
    rintro e w2 ⟨rfl, rfl⟩
    go_wp2
    go_ret
    exact ⟨ret_bool (by simp [placeB, HD.out, HK.out]), b2⟩
  by_cases k3 : y.kind = 3
  · have hk : kindV y.kind #[.int .i64 y.number, .int .i64 y.kind, .slice a2 y.stuffs.length c2, .slice a3 y.uses.length c3, .slice a4 y.opens.length c4, .slice a5 y.shuts.length c5] = .iface 172 (.agg #[.int .i64 y.number, .int .i64 y.kind, .slice a2 y.stuffs.length c2, .slice a3 y.uses.length c3, .slice a4 y.opens.length c4, .slice a5 y.shuts.length c5]) := by simp [kindV, k3]
    rw [hk]
    have HK : Hid (y.kind = 3) := k3
    clear k3 hk k2 k1
    go_wp2
    go_ret
    exact ⟨ret_bool (by simp [placeB, HD.out, HK.out]), b1⟩
  · have hk : kindV y.kind #[.int .i64 y.number, .int .i64 y.kind, .slice a2 y.stuffs.length c2, .slice a3 y.uses.length c3, .slice a4 y.opens.length c4, .slice a5 y.shuts.length c5] = .nilIface := by simp [kindV, k1, k2, k3]
    rw [hk]
    have HK : Hid (¬ y.kind = 1 ∧ ¬ y.kind = 2) := ⟨k1, k2⟩
    clear k3 hk k2 k1
    go_wp2
    go_ret
    exact ⟨ret_bool (by simp [placeB, HD.out, HK.out.1, HK.out.2]), b1⟩

end Go.Proofs.YtfmhkicncgccjaaGreat
