/- Joined: DrL. -/
import Derived.Laws.BytesString
import Derived.Test.YtfmhkicncgccjaaGreatFm06
import Derived.Test.YtfmhkicncgccjaaGreatFm26
/- What l5Dec answers of a small number: a short text. -/
namespace Go.Proofs.YtfmhkicncgccjaaGreat
open Go.RowKit Go.Sort
set_option linter.unusedSimpArgs false
set_option linter.unusedVariables false

theorem byte_text {W : World} {b : Nat} {d : Int} (h : W.cell? ⟨b, 0, none⟩ = some (.int .u8 d)) : Sem.run Tryz.prog (convert 22 9 (.slice (some ⟨b, 0, none⟩) 1 1)) W = .ok (.string (ByteArray.empty.push (UInt8.ofNat d.toNat))) W := by
 rw [run_convert_bytes_string W 22 9 5 _ 1 1 Tryz.underlying22 Tryz.underlying5 Tryz.underlying9]
 exact run_bytesToString W ⟨b, 0, none⟩ 1 1 [d] (run_loadCells_list W _ [.int .u8 d] (fun j v hj => by
  match j with
  | 0 => simp at hj; subst hj; exact h
  | j + 1 => simp at hj))
theorem below_step {w W W' : World} (h : Below w.heap.size w W) (h' : Below W.heap.size W W') : Below w.heap.size w W' := h.trans (h'.mono h.size)
theorem bcell9 {W W' : World} (h : Below W.heap.size W W') : ∀ b o, b < W.heap.size → W'.cell? ⟨b, o, none⟩ = W.cell? ⟨b, o, none⟩ := fun b o hb => h.cell hb
theorem byte_size (d : Int) : (ByteArray.empty.push (UInt8.ofNat d.toNat)).size = 1 := rfl
set_option maxRecDepth 100000 in
set_option maxHeartbeats 4000000 in
theorem l5Dec_digit (w : World) (v : Int) (h0 : 0 ≤ v) (h1 : v < 10) :
 Calls Tryz.prog 151 #[.int .i64 v] w fun e w' => (∃ s : ByteArray, e = .returned (.string s) ∧ s.size ≤ 1) ∧ Below w.heap.size w w' := by
 have hc : (w.alloc (.cells #[.int .u8 (48 + v)] 5)).cell? ⟨w.heap.size, 0, none⟩ = some (.int .u8 (48 + v)) := (Row.new w 5 [.int .u8 (48 + v)]).cell 0 rfl
 have hb := byte_text hc
 have hz := byte_size (48 + v)
 have FIN : Hid (Below w.heap.size w (w.alloc (.cells #[.int .u8 (48 + v)] 5))) := (Below.refl _ _).alloc (Nat.le_refl _) _
 generalize ByteArray.empty.push (UInt8.ofNat (48 + v).toNat) = s at hb hz
 go_enter Tryz.func151, Tryz.ntmps151
 go_wp2
 go_ret
 exact ⟨⟨s, rfl, by omega⟩, FIN.out⟩
set_option maxRecDepth 100000 in
set_option maxHeartbeats 4000000 in
theorem l5Dec_small (w : World) (v : Int) (h0 : 10 ≤ v) (h1 : v < 100) :
 Calls Tryz.prog 151 #[.int .i64 v] w fun e w' => (∃ s : ByteArray, e = .returned (.string s) ∧ s.size ≤ 2) ∧ Below w.heap.size w w' := by
 obtain ⟨q, r, rfl, hq0, hq1, hr0, hr1⟩ : ∃ q r : Int, v = 10 * q + r ∧ 1 ≤ q ∧ q < 10 ∧ 0 ≤ r ∧ r < 10 := ⟨v / 10, v % 10, by omega, by omega, by omega, by omega, by omega⟩
 have eq : (10 * q + r) / 10 = q := by omega
 have er : (10 * q + r) % 10 = r := by omega
 have eq2 : Int.tdiv (10 * q + r) 10 = q := by rw [Int.tdiv_eq_ediv_of_nonneg (by omega)]; exact eq
 have er2 : Int.tmod (10 * q + r) 10 = r := by rw [Int.tmod_eq_emod_of_nonneg (by omega)]; exact er
 have DIG := fun W => l5Dec_digit W q (by omega) (by omega)
 have HBT : ∀ (W : World) (b : Nat), W.cell? ⟨b, 0, none⟩ = some (.int .u8 (48 + r)) → Sem.run Tryz.prog (convert 22 9 (.slice (some ⟨b, 0, none⟩) 1 1)) W = .ok (.string (ByteArray.empty.push (UInt8.ofNat (48 + r).toNat))) W := fun W b h => byte_text h
 have hz := byte_size (48 + r)
 generalize ByteArray.empty.push (UInt8.ofNat (48 + r).toNat) = s1 at HBT hz
 go_enter Tryz.func151, Tryz.ntmps151
 go_wp2_with fail
 refine wp_region_E (fun _ => True) 10 (by kernel_rfl) ?_
 refine tk 0 ?vad0 rfl (by kernel_rfl) (fun _ _ _ h => h) (by rfl) (trivial) ?yad0 ?rad0
 case yad0 => intro w' h; (try dsimp only at h); go_simp; (try with_reducible rfl)
 try simp only [Act.put, sA, sB, sC]
 refine tk 1 ?vad1 rfl (by kernel_rfl) (fun _ _ _ h => h) (by rfl) (trivial) ?yad1 ?rad1
 case yad1 => intro w' h; (try dsimp only at h); go_simp; (try with_reducible rfl)
 try simp only [Act.put, sA, sB, sC]
 refine tk 3 ?vad3 rfl (by kernel_rfl) (fun _ _ _ h => h) (by rfl) (trivial) ?yad3 ?rad3
 case yad3 => intro w' h; (try dsimp only at h); go_simp; (try with_reducible rfl)
 try simp only [Act.put, sA, sB, sC]
 refine tk 4 ?vad4 rfl (by kernel_rfl) (fun _ _ _ h => h) (by rfl) (trivial) ?yad4 ?rad4
 case yad4 => intro w' h; (try dsimp only at h); go_simp; (try with_reducible rfl)
 try simp only [Act.put, sA, sB, sC]
 refine tk 5 ?vad5 rfl (by kernel_rfl) (fun _ _ _ h => h) (by rfl) (trivial) ?yad5 ?rad5
 case yad5 => intro w' h; (try dsimp only at h); go_simp; (try with_reducible rfl)
 try simp only [Act.put, sA, sB, sC]
 refine tk 6 ?vad6 rfl (by kernel_rfl) (fun _ _ _ h => h) (by rfl) (trivial) ?yad6 ?rad6
 case yad6 => intro w' h; (try dsimp only at h); go_simp; (try with_reducible rfl)
 try simp only [Act.put, sA, sB, sC]
 refine wpAnyE_twoC 2 7 (by kernel_rfl) rfl rfl ?wd1 ?wd2
 case wd1 =>
  intro K hK
  rw [if_pos (by rfl)]
  go_wp2_with (go_at_call 151; refine (DIG _).mono ?_; rintro e X9 ⟨⟨s9, rfl, hs9⟩, hb9⟩; have bX9 : Below w.heap.size w X9 := below_step (by (repeat (first | assumption | exact Below.refl _ _ | refine Below.drew ?_ | refine Below.alloc ?_ (by (try simp); (try omega)) _ | refine Below.setCell ?_ (by (try simp); (try omega)) _))) hb9; have hz9 := bX9.size; have hc9 := bcell9 hb9; have hlim : ¬ 9223372036854775807 < s9.size + 1 := by omega)
  refine hK.out _ _ (fun _ => trivial) ?_
  clear hK K
  try simp only [Act.put, sA, sB, sC]
  refine wpAnyE_oneC (i := 7) rfl (by kernel_rfl) ?_
  intro K hK
  rw [if_pos (by rfl)]
  go_wp2_with fail
  refine hK.out _ _ (fun _ => trivial) ?_
  clear hK K
  try simp only [Act.put, sA, sB, sC]
  refine wpAnyE_oneC (i := 8) rfl (by kernel_rfl) ?_
  intro K hK
  rw [if_pos (by rfl)]
  go_wp2_with fail
  refine hK.out _ _ (fun _ => trivial) ?_
  clear hK K
  try simp only [Act.put, sA, sB, sC]
  refine tk 9 ?vad19 rfl (by kernel_rfl) (fun _ _ _ h => h) (by rfl) (trivial) ?yad19 ?rad19
  case yad19 => intro w' h; (try dsimp only at h); go_simp; (try with_reducible rfl)
  try simp only [Act.put, sA, sB, sC]
  refine wpAnyE_oneC (i := 10) rfl (by kernel_rfl) ?_
  intro K hK
  rw [if_pos (by rfl)]
  go_wp2_with fail
  refine hK.out _ _ (fun h => absurd rfl h) ?_
  clear hK K
  try simp only [Act.put, sA, sB, sC]
  refine wpAnyE_done (by kernel_rfl) ?_ _
  go_wp2
  go_ret
  exact ⟨⟨s9 ++ s1, rfl, by rw [ByteArray.size_append]; omega⟩, (by (repeat (first | assumption | exact Below.refl _ _ | refine Below.drew ?_ | refine Below.alloc ?_ (by (try simp); (try omega)) _ | refine Below.setCell ?_ (by (try simp); (try omega)) _)))⟩
 case wd2 =>
  intro K hK
  rw [if_pos (by rfl)]
  go_wp2_with fail
  refine hK.out _ _ (fun _ => trivial) ?_
  clear hK K
  try simp only [Act.put, sA, sB, sC]
  refine wpAnyE_twoC 2 8 (by kernel_rfl) rfl rfl ?wd21 ?wd22
  case wd21 =>
   intro K hK
   rw [if_pos (by rfl)]
   go_wp2_with (go_at_call 151; refine (DIG _).mono ?_; rintro e X9 ⟨⟨s9, rfl, hs9⟩, hb9⟩; have bX9 : Below w.heap.size w X9 := below_step (by (repeat (first | assumption | exact Below.refl _ _ | refine Below.drew ?_ | refine Below.alloc ?_ (by (try simp); (try omega)) _ | refine Below.setCell ?_ (by (try simp); (try omega)) _))) hb9; have hz9 := bX9.size; have hc9 := bcell9 hb9; have hlim : ¬ 9223372036854775807 < s9.size + 1 := by omega)
   refine hK.out _ _ (fun _ => trivial) ?_
   clear hK K
   try simp only [Act.put, sA, sB, sC]
   refine wpAnyE_oneC (i := 8) rfl (by kernel_rfl) ?_
   intro K hK
   rw [if_pos (by rfl)]
   go_wp2_with fail
   refine hK.out _ _ (fun _ => trivial) ?_
   clear hK K
   try simp only [Act.put, sA, sB, sC]
   refine tk 9 ?vad219 rfl (by kernel_rfl) (fun _ _ _ h => h) (by rfl) (trivial) ?yad219 ?rad219
   case yad219 => intro w' h; (try dsimp only at h); go_simp; (try with_reducible rfl)
   try simp only [Act.put, sA, sB, sC]
   refine wpAnyE_oneC (i := 10) rfl (by kernel_rfl) ?_
   intro K hK
   rw [if_pos (by rfl)]
   go_wp2_with fail
   refine hK.out _ _ (fun h => absurd rfl h) ?_
   clear hK K
   try simp only [Act.put, sA, sB, sC]
   refine wpAnyE_done (by kernel_rfl) ?_ _
   go_wp2
   go_ret
   exact ⟨⟨s9 ++ s1, rfl, by rw [ByteArray.size_append]; omega⟩, (by (repeat (first | assumption | exact Below.refl _ _ | refine Below.drew ?_ | refine Below.alloc ?_ (by (try simp); (try omega)) _ | refine Below.setCell ?_ (by (try simp); (try omega)) _)))⟩
  case wd22 =>
   intro K hK
   rw [if_pos (by rfl)]
   go_wp2_with fail
   refine hK.out _ _ (fun _ => trivial) ?_
   clear hK K
   try simp only [Act.put, sA, sB, sC]
   refine wpAnyE_oneC (i := 2) rfl (by kernel_rfl) ?_
   intro K hK
   rw [if_pos (by rfl)]
   go_wp2_with (go_at_call 151; refine (DIG _).mono ?_; rintro e X9 ⟨⟨s9, rfl, hs9⟩, hb9⟩; have bX9 : Below w.heap.size w X9 := below_step (by (repeat (first | assumption | exact Below.refl _ _ | refine Below.drew ?_ | refine Below.alloc ?_ (by (try simp); (try omega)) _ | refine Below.setCell ?_ (by (try simp); (try omega)) _))) hb9; have hz9 := bX9.size; have hc9 := bcell9 hb9; have hlim : ¬ 9223372036854775807 < s9.size + 1 := by omega)
   refine hK.out _ _ (fun _ => trivial) ?_
   clear hK K
   try simp only [Act.put, sA, sB, sC]
   refine tk 9 ?vad229 rfl (by kernel_rfl) (fun _ _ _ h => h) (by rfl) (trivial) ?yad229 ?rad229
   case yad229 => intro w' h; (try dsimp only at h); go_simp; (try with_reducible rfl)
   try simp only [Act.put, sA, sB, sC]
   refine wpAnyE_oneC (i := 10) rfl (by kernel_rfl) ?_
   intro K hK
   rw [if_pos (by rfl)]
   go_wp2_with fail
   refine hK.out _ _ (fun h => absurd rfl h) ?_
   clear hK K
   try simp only [Act.put, sA, sB, sC]
   refine wpAnyE_done (by kernel_rfl) ?_ _
   go_wp2
   go_ret
   exact ⟨⟨s9 ++ s1, rfl, by rw [ByteArray.size_append]; omega⟩, (by (repeat (first | assumption | exact Below.refl _ _ | refine Below.drew ?_ | refine Below.alloc ?_ (by (try simp); (try omega)) _ | refine Below.setCell ?_ (by (try simp); (try omega)) _)))⟩

end Go.Proofs.YtfmhkicncgccjaaGreat

