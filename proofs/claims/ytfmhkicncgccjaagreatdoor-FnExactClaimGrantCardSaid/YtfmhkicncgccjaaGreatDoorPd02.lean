/- Joined: CdE, CdF, CdG, CdH. -/
import Derived.Test.YtfmhkicncgccjaaGreatDoorProg
import Derived.WalkKit
import Derived.LaidEql
import Derived.Stop.Asserts
import Derived.RowKitTokens
import Derived.WalkSpells
import Derived.Test.YtfmhkicncgccjaaGreatDoorPc01
/- errors.As at the target reason, of a reason and of a reason wrapped once or twice. -/
namespace Go.Proofs.YtfmhkicncgccjaaGreatDoor
open Go.RowKit Go.Extern.Stop Go.Stop Go.Extern
set_option linter.unusedSimpArgs false
set_option linter.unusedVariables false

/-- A reason. -/
def reasonV (c : Int) : Value := .iface 111 (.agg #[.int .i64 c])
/-- A reason with what it was found at. -/
def aboutV (s : ByteArray) (v : Value) : Value := .iface 149 (.agg #[.string s, v])

theorem as_nil (t : Value) (w : World) :
    Calls Tryz.prog 78 #[.nilIface, t] w fun e w' => e = .returned (.bool false) ∧ w' = w := by
  go_enter Tryz.func78, Tryz.ntmps78
  go_wp2
  go_ret
  exact ⟨rfl, rfl⟩

theorem nGlob (t : TypeId) : typeHandle Tryz.prog t = .pointer (some ⟨4, t, none⟩) := by kernel_rfl
theorem asValueOf (t : Addr) (w : World) : (ReflectliteValue.unpack (.iface 113 (.pointer (some t)))).run Tryz.prog w
    = .ok (.agg #[.pointer (some ⟨4, 113, none⟩), .pointer (some ⟨w.heap.size, 0, none⟩), .int .u64 150]) (w.alloc (.cells #[.pointer (some t)] 113)) := by kernel_rfl
theorem asType (a : Addr) (w : World) : (ReflectliteValue.methodAny (ReflectliteValue.valueError "reflectlite.Value.Type" 0) (fun t _ _ _ => ReflectliteType.toType t) #[.agg #[.pointer (some ⟨4, 113, none⟩), .pointer (some a), .int .u64 150]]).run Tryz.prog w
    = .ok (.iface 158 (.agg #[.pointer (some ⟨4, 113, none⟩)])) w := by kernel_rfl
theorem asMethodKind (h : Value) (w : World) : (Go.method 377 158 (.agg #[h]) "Kind").run Tryz.prog w = .ok (226, h) w := by kernel_rfl
theorem asKindP (w : World) : ((ReflectliteType.abiMethod fun t => (fun a : Nat => Value.int IntKind.u8 (a : Int)) <$> Rtype.kind t) #[.pointer (some ⟨4, 113, none⟩)]).run Tryz.prog w = .ok (.int .u8 22) w := by kernel_rfl
theorem asKindR (w : World) : ((ReflectliteType.abiMethod fun t => (fun a : Nat => Value.int IntKind.u8 (a : Int)) <$> Rtype.kind t) #[.pointer (some ⟨4, 111, none⟩)]).run Tryz.prog w = .ok (.int .u8 25) w := by kernel_rfl

/-- A method of a Value reads the Value's parts first. -/
theorem rlm (z : Sem Value) (f : TypeId → Addr → Nat → Nat → Sem Value) (v : Value) :
    ∃ k : Option (TypeId × Addr × Nat) → Sem Value, ReflectliteValue.method z f #[v] = (ReflectliteValue.parts v >>= k) ∧ ∀ t a fl, k (some (t, a, fl)) = f t a fl (fl % 32) := ⟨_, rfl, fun _ _ _ => rfl⟩
theorem asPartsP (a : Addr) (w : World) : (ReflectliteValue.parts (.agg #[.pointer (some ⟨4, 113, none⟩), .pointer (some a), .int .u64 150])).run Tryz.prog w = .ok (some (113, a, 150)) w := by kernel_rfl
theorem asIsNil (a p : Addr) (W : World) (ha : W.cell? a = some (.pointer (some p))) :
    (ReflectliteValue.method (ReflectliteValue.valueError "reflectlite.Value.IsNil" 0) ReflectliteValue.isNil #[.agg #[.pointer (some ⟨4, 113, none⟩), .pointer (some a), .int .u64 150]]).run Tryz.prog W = .ok (.bool false) W := by
  obtain ⟨k, hk, hk'⟩ := rlm _ _ _
  rw [hk]
  simp only [Sem.run_bind, asPartsP, Result.andThen, hk']
  simp [ReflectliteValue.isNil, loadVar, isAgg, underlying, Tryz.underlying113, ha, Result.andThen]

theorem asMethodElem (h : Value) (w : World) : (Go.method 377 158 (.agg #[h]) "Elem").run Tryz.prog w = .ok (238, .agg #[h]) w := by kernel_rfl
theorem asMethodImplements (h : Value) (w : World) : (Go.method 377 158 (.agg #[h]) "Implements").run Tryz.prog w = .ok (239, .agg #[h]) w := by kernel_rfl
theorem asMethodAssignableTo (h : Value) (w : World) : (Go.method 377 158 (.agg #[h]) "AssignableTo").run Tryz.prog w = .ok (236, .agg #[h]) w := by kernel_rfl
theorem asElemP (w : World) : (ReflectliteType.method ReflectliteType.elem #[.agg #[.pointer (some ⟨4, 113, none⟩)]]).run Tryz.prog w = .ok (.iface 158 (.agg #[.pointer (some ⟨4, 111, none⟩)])) w := by kernel_rfl
theorem asImplements (w : World) : (ReflectliteType.relation "Implements" ReflectliteType.implements_ #[.agg #[.pointer (some ⟨4, 111, none⟩)], .iface 158 (.agg #[.pointer (some ⟨4, 70, none⟩)])]).run Tryz.prog w = .ok (.bool true) w := by kernel_rfl
theorem asTypeOfR (v : Value) (w : World) : (ReflectliteType.typeOf #[.iface 111 v]).run Tryz.prog w = .ok (.iface 158 (.agg #[.pointer (some ⟨4, 111, none⟩)])) w := by kernel_rfl
theorem asTypeOfA (v : Value) (w : World) : (ReflectliteType.typeOf #[.iface 149 v]).run Tryz.prog w = .ok (.iface 158 (.agg #[.pointer (some ⟨4, 149, none⟩)])) w := by kernel_rfl
theorem asAssignR (w : World) : (ReflectliteType.relation "AssignableTo" ReflectliteType.assignableTo #[.agg #[.pointer (some ⟨4, 111, none⟩)], .iface 158 (.agg #[.pointer (some ⟨4, 111, none⟩)])]).run Tryz.prog w = .ok (.bool true) w := by kernel_rfl
theorem asAssignA (w : World) : (ReflectliteType.relation "AssignableTo" ReflectliteType.assignableTo #[.agg #[.pointer (some ⟨4, 149, none⟩)], .iface 158 (.agg #[.pointer (some ⟨4, 111, none⟩)])]).run Tryz.prog w = .ok (.bool false) w := by kernel_rfl
theorem asValueR (c : Int) (w : World) : (ReflectliteValue.unpack (.iface 111 (.agg #[.int .i64 c]))).run Tryz.prog w
    = .ok (.agg #[.pointer (some ⟨4, 111, none⟩), .pointer (some ⟨w.heap.size, 0, none⟩), .int .u64 153]) (w.alloc (.cells #[.int .i64 c] 111)) := by kernel_rfl
theorem asElemOf (w : World) : (Rtype.elem? 113).run Tryz.prog w = .ok (some 111) w := by kernel_rfl
theorem asMk (p : Addr) (w : World) : (ReflectliteValue.mk 111 p ReflectliteValue.flagAddr).run Tryz.prog w = .ok (.agg #[.pointer (some ⟨4, 111, none⟩), .pointer (some p), .int .u64 409]) w := by kernel_rfl
theorem asElemV (a p : Addr) (W : World) (ha : W.cell? a = some (.pointer (some p))) :
    (ReflectliteValue.method (ReflectliteValue.valueError "reflectlite.Value.Elem" 0) ReflectliteValue.elem #[.agg #[.pointer (some ⟨4, 113, none⟩), .pointer (some a), .int .u64 150]]).run Tryz.prog W
      = .ok (.agg #[.pointer (some ⟨4, 111, none⟩), .pointer (some p), .int .u64 409]) W := by
  obtain ⟨k, hk, hk'⟩ := rlm _ _ _
  rw [hk]
  simp only [Sem.run_bind, asPartsP, Result.andThen, hk']
  simp [ReflectliteValue.elem, loadVar, isAgg, underlying, Tryz.underlying113, ha, Result.andThen, asElemOf, asMk]
theorem asPartsT (a : Addr) (w : World) : (ReflectliteValue.parts (.agg #[.pointer (some ⟨4, 111, none⟩), .pointer (some a), .int .u64 409])).run Tryz.prog w = .ok (some (111, a, 409)) w := by kernel_rfl
theorem asPartsS (a : Addr) (w : World) : (ReflectliteValue.parts (.agg #[.pointer (some ⟨4, 111, none⟩), .pointer (some a), .int .u64 153])).run Tryz.prog w = .ok (some (111, a, 153)) w := by kernel_rfl
theorem asDirect (w : World) : (Rtype.directlyAssignable 111 111).run Tryz.prog w = .ok true w := by kernel_rfl

end Go.Proofs.YtfmhkicncgccjaaGreatDoor

/- errors.As at the target reason: its walk. -/
namespace Go.Proofs.YtfmhkicncgccjaaGreatDoor
open Go.RowKit Go.Extern.Stop Go.Stop Go.Extern
set_option linter.unusedSimpArgs false
set_option linter.unusedVariables false

theorem asNoAs (v : Value) (w : World) : (Instr.typeAssert (.iface 149 v) 70 163 true).run Tryz.prog w = .ok (.tuple #[.nilIface, .bool false]) w := run_typeAssert_lacksB Tryz.underlying163 (by kernel_rfl) (by kernel_rfl) v 70 w
theorem asUnwraps (v : Value) (w : World) : (Instr.typeAssert (.iface 149 v) 70 166 true).run Tryz.prog w = .ok (.tuple #[.iface 149 v, .bool true]) w := run_typeAssert_hasB Tryz.underlying166 (by kernel_rfl) v 70 w
theorem asMethodUnwrap (h : Value) (w : World) : (Go.method 377 149 h "Unwrap").run Tryz.prog w = .ok (234, h) w := by kernel_rfl

theorem asSize (w : World) : (sizeOf 111).run Tryz.prog w = .ok 1 w := by kernel_rfl
theorem asAgg (w : World) : (isAgg 111).run Tryz.prog w = .ok true w := by kernel_rfl

/-- (Value).Set: the parts of both, what the one holds, whether it may be assigned; then it is stored. -/
theorem rls (v x : Value) : ∃ k1 : Option (TypeId × Addr × Nat) → Option (TypeId × Addr × Nat) → Sem Value,
    ReflectliteValue.set #[v, x] = (ReflectliteValue.parts v >>= fun p => ReflectliteValue.parts x >>= fun q => k1 p q) ∧
    ∀ dst a fl src b g, (fl / ReflectliteValue.flagAddr % 2 == 0) = false → ∃ k2 : Value → Bool → Sem Value,
      k1 (some (dst, a, fl)) (some (src, b, g)) = (loadVar src b >>= fun val => Rtype.directlyAssignable dst src >>= fun d => k2 val d) ∧
      ∀ val, k2 val true = (storeVar dst a val >>= fun _ => pure (.tuple #[])) := by
  refine ⟨_, rfl, fun dst a fl src b g h => ?_⟩
  dsimp only
  rw [h]
  exact ⟨_, rfl, fun _ => rfl⟩

theorem asSet (ta b : Addr) (c : Int) (old : Value) (W : World) (hb : W.cell? b = some (.int .i64 c)) (ht : W.cell? ta = some old) (hf : W.frozen? ta = false) :
    (ReflectliteValue.set #[.agg #[.pointer (some ⟨4, 111, none⟩), .pointer (some ta), .int .u64 409], .agg #[.pointer (some ⟨4, 111, none⟩), .pointer (some b), .int .u64 153]]).run Tryz.prog W
      = .ok (.tuple #[]) (W.setCell ta (.int .i64 c)) := by
  obtain ⟨k1, h0, h1⟩ := rls (.agg #[.pointer (some ⟨4, 111, none⟩), .pointer (some ta), .int .u64 409]) (.agg #[.pointer (some ⟨4, 111, none⟩), .pointer (some b), .int .u64 153])
  obtain ⟨k2, h2, h3⟩ := h1 111 ta 409 111 b 153 (by decide)
  rw [h0]
  simp only [Sem.run_bind, asPartsT, asPartsS, Result.andThen, h2]
  simp [loadVar, asAgg, asSize, loadCells, loadCellsFrom, hb, Result.andThen, asDirect, h3, storeVar, Value.cells, storeCells, Addr.add]
  rw [run_store Tryz.prog W ta _ _ (by rfl)]
  simp [ht, hf]

/-- What errors.As leaves behind a hit: the target holds the code; nothing else that was there has turned. -/
def AsHit (b : Nat) (c : Int) (w w' : World) : Prop := w'.cell? ⟨b, 0, none⟩ = some (.int .i64 c) ∧ Below b w w'

set_option maxHeartbeats 4000000 in
theorem unwrap_any (s : ByteArray) (v : Value) (w : World) :
    Calls Tryz.prog 234 #[.agg #[.string s, v]] w fun e w' => e = .returned v ∧ Below w.heap.size w w' := by
  go_enter Tryz.func234, Tryz.ntmps234
  go_wp2
  go_ret
  exact ⟨rfl, (Below.refl _ _).alloc (Nat.le_refl _) _⟩

end Go.Proofs.YtfmhkicncgccjaaGreatDoor

/- errors.as at the target reason, of a reason and of a reason wrapped once or twice. -/
namespace Go.Proofs.YtfmhkicncgccjaaGreatDoor
open Go.RowKit Go.Extern.Stop Go.Stop Go.Extern
set_option linter.unusedSimpArgs false
set_option linter.unusedVariables false

/-- The value of the target, as reflectlite has it. -/
def targetV (p : Nat) : Value := .agg #[.pointer (some ⟨4, 113, none⟩), .pointer (some ⟨p, 0, none⟩), .int .u64 150]
def rtypeV (t : Nat) : Value := .iface 158 (.agg #[.pointer (some ⟨4, t, none⟩)])

theorem AsHit.set {b : Nat} {c : Int} {w : World} {old : Value} (hc : w.cell? ⟨b, 0, none⟩ = some old) : AsHit b c w (w.setCell ⟨b, 0, none⟩ (.int .i64 c)) :=
  ⟨World.cell?_setCell_same' _ _ _ (by rw [hc]; rfl), (Below.refl _ _).setCell (p := ⟨b, 0, none⟩) (Nat.le_refl _) _⟩
theorem AsHit.alloc {b : Nat} {c : Int} {w X : World} (h : AsHit b c w X) (o : Obj) : AsHit b c w (X.alloc o) := by
  have hl := block_lt_of_cell h.1
  dsimp only at hl
  exact ⟨by rw [World.cell?_alloc_lt _ _ ⟨b, 0, none⟩ hl]; exact h.1, h.2.alloc (by omega) o⟩

theorem setHit {X : World} {b : Nat} {c : Int} {w : World} {old : Value} (hb : Below w.heap.size w X) (hc : w.cell? ⟨b, 0, none⟩ = some old) : AsHit b c w (X.setCell ⟨b, 0, none⟩ (.int .i64 c)) := by
  have hl := block_lt_of_cell hc
  dsimp only at hl
  exact ⟨World.cell?_setCell_same' _ _ _ (by rw [hb.cell (p := ⟨b, 0, none⟩) hl, hc]; rfl), (hb.mono (Nat.le_of_lt hl)).setCell (p := ⟨b, 0, none⟩) (Nat.le_refl _) _⟩

set_option maxHeartbeats 8000000 in
set_option maxRecDepth 100000 in
theorem as1_any (c : Int) (b p : Nat) (old : Value) (w : World) (hp : w.cell? ⟨p, 0, none⟩ = some (.pointer (some ⟨b, 0, none⟩))) (ht : w.cell? ⟨b, 0, none⟩ = some old) (hf : w.frozen? ⟨b, 0, none⟩ = false) :
    Calls Tryz.prog 104 #[reasonV c, .iface 113 (.pointer (some ⟨b, 0, none⟩)), targetV p, rtypeV 111] w fun e w' => e = .returned (.bool true) ∧ AsHit b c w w' := by
  unfold reasonV targetV rtypeV
  have hpl := block_lt_of_cell hp
  have hbl := block_lt_of_cell ht
  dsimp only at hpl hbl
  have HF : Hid (AsHit b c w (w.setCell ⟨b, 0, none⟩ (.int .i64 c))) := AsHit.set ht
  have HT : Hid (w.cell? ⟨b, 0, none⟩ = some old) := ht
  have hT := @run_callFunc_extern Tryz.prog 119 _ ReflectliteType.typeOf Tryz.func119 (by kernel_rfl) (by kernel_rfl) (by kernel_rfl) (by kernel_rfl)
  have hA := @run_callFunc_extern Tryz.prog 236 _ (ReflectliteType.relation "AssignableTo" ReflectliteType.assignableTo) Tryz.func236 (by kernel_rfl) (by kernel_rfl) (by kernel_rfl) (by kernel_rfl)
  have hE := @run_callFunc_extern Tryz.prog 120 _ (ReflectliteValue.method (ReflectliteValue.valueError "reflectlite.Value.Elem" 0) ReflectliteValue.elem) Tryz.func120 (by kernel_rfl) (by kernel_rfl) (by kernel_rfl) (by kernel_rfl)
  have hV := @run_callFunc_extern Tryz.prog 101 _ (fun args => ReflectliteValue.unpack (args.getD 0 (.tuple #[]))) Tryz.func101 (by kernel_rfl) (by kernel_rfl) (by kernel_rfl) (by kernel_rfl)
  have hS := @run_callFunc_extern Tryz.prog 121 _ ReflectliteValue.set Tryz.func121 (by kernel_rfl) (by kernel_rfl) (by kernel_rfl) (by kernel_rfl)
  have tO := asTypeOfR
  have mA := asMethodAssignableTo
  have aR := asAssignR
  have vR := asValueR
  have el := asElemV ⟨p, 0, none⟩ ⟨b, 0, none⟩ (w.alloc (.cells #[.pointer (some ⟨4, 113, none⟩), .pointer (some ⟨p, 0, none⟩), .int .u64 150] 136)) (by rw [World.cell?_alloc_lt _ _ ⟨p, 0, none⟩ hpl]; exact hp)
  have st := asSet ⟨b, 0, none⟩ ⟨w.heap.size + 1, 0, none⟩ c old ((w.alloc (.cells #[.pointer (some ⟨4, 113, none⟩), .pointer (some ⟨p, 0, none⟩), .int .u64 150] 136)).alloc (.cells #[.int .i64 c] 111))
    (by rw [World.cell?_alloc_at _ _ _ _ (by simp)]; rfl)
    (by rw [World.cell?_alloc_lt _ _ ⟨b, 0, none⟩ (by simp; omega), World.cell?_alloc_lt _ _ ⟨b, 0, none⟩ hbl]; exact ht)
    (by rw [World.frozen?_alloc_old _ _ ⟨b, 0, none⟩ (by simp; omega), World.frozen?_alloc_old _ _ ⟨b, 0, none⟩ (Nat.ne_of_lt hbl)]; exact hf)
  go_enter Tryz.func104, Tryz.ntmps104
  go_wp2
  refine wp_loop_rounds 1 ?_
  rw [rounds_succ]
  go_wp2
  go_ret
  exact ⟨rfl, ((HF.out.alloc _).alloc _)⟩

set_option maxHeartbeats 8000000 in
set_option maxRecDepth 100000 in
theorem as2_any (c : Int) (s : ByteArray) (b p : Nat) (old : Value) (w : World) (hp : w.cell? ⟨p, 0, none⟩ = some (.pointer (some ⟨b, 0, none⟩))) (ht : w.cell? ⟨b, 0, none⟩ = some old) (hf : w.frozen? ⟨b, 0, none⟩ = false) :
    Calls Tryz.prog 104 #[aboutV s (reasonV c), .iface 113 (.pointer (some ⟨b, 0, none⟩)), targetV p, rtypeV 111] w fun e w' => e = .returned (.bool true) ∧ AsHit b c w w' := by
  unfold reasonV targetV rtypeV aboutV
  have hpl := block_lt_of_cell hp
  have hbl := block_lt_of_cell ht
  dsimp only at hpl hbl
  have HF : Hid (AsHit b c w (w.setCell ⟨b, 0, none⟩ (.int .i64 c))) := AsHit.set ht
  have HT : Hid (w.cell? ⟨b, 0, none⟩ = some old) := ht
  have hT := @run_callFunc_extern Tryz.prog 119 _ ReflectliteType.typeOf Tryz.func119 (by kernel_rfl) (by kernel_rfl) (by kernel_rfl) (by kernel_rfl)
  have hA := @run_callFunc_extern Tryz.prog 236 _ (ReflectliteType.relation "AssignableTo" ReflectliteType.assignableTo) Tryz.func236 (by kernel_rfl) (by kernel_rfl) (by kernel_rfl) (by kernel_rfl)
  have hE := @run_callFunc_extern Tryz.prog 120 _ (ReflectliteValue.method (ReflectliteValue.valueError "reflectlite.Value.Elem" 0) ReflectliteValue.elem) Tryz.func120 (by kernel_rfl) (by kernel_rfl) (by kernel_rfl) (by kernel_rfl)
  have hV := @run_callFunc_extern Tryz.prog 101 _ (fun args => ReflectliteValue.unpack (args.getD 0 (.tuple #[]))) Tryz.func101 (by kernel_rfl) (by kernel_rfl) (by kernel_rfl) (by kernel_rfl)
  have hS := @run_callFunc_extern Tryz.prog 121 _ ReflectliteValue.set Tryz.func121 (by kernel_rfl) (by kernel_rfl) (by kernel_rfl) (by kernel_rfl)
  have tO := asTypeOfR
  have mA := asMethodAssignableTo
  have aR := asAssignR
  have vR := asValueR
  have tA := asTypeOfA
  have aA := asAssignA
  have na := asNoAs
  have uw := asUnwraps
  have mU := asMethodUnwrap
  have el := asElemV ⟨p, 0, none⟩ ⟨b, 0, none⟩ ((w.alloc (.cells #[.pointer (some ⟨4, 113, none⟩), .pointer (some ⟨p, 0, none⟩), .int .u64 150] 136)).alloc (.cells #[.string s, .iface 111 (.agg #[.int .i64 c])] 149)) (by rw [World.cell?_alloc_lt _ _ ⟨p, 0, none⟩ (by simp; omega), World.cell?_alloc_lt _ _ ⟨p, 0, none⟩ hpl]; exact hp)
  have st := asSet ⟨b, 0, none⟩ ⟨w.heap.size + 1 + 1, 0, none⟩ c old (((w.alloc (.cells #[.pointer (some ⟨4, 113, none⟩), .pointer (some ⟨p, 0, none⟩), .int .u64 150] 136)).alloc (.cells #[.string s, .iface 111 (.agg #[.int .i64 c])] 149)).alloc (.cells #[.int .i64 c] 111))
    (by rw [World.cell?_alloc_at _ _ _ _ (by simp)]; rfl)
    (by rw [World.cell?_alloc_lt _ _ ⟨b, 0, none⟩ (by simp; omega), World.cell?_alloc_lt _ _ ⟨b, 0, none⟩ (by simp; omega), World.cell?_alloc_lt _ _ ⟨b, 0, none⟩ hbl]; exact ht)
    (by rw [World.frozen?_alloc_old _ _ ⟨b, 0, none⟩ (by simp; omega), World.frozen?_alloc_old _ _ ⟨b, 0, none⟩ (by simp; omega), World.frozen?_alloc_old _ _ ⟨b, 0, none⟩ (Nat.ne_of_lt hbl)]; exact hf)
  go_enter Tryz.func104, Tryz.ntmps104
  go_wp2
  refine wp_loop_rounds 2 ?_
  rw [rounds_succ]
  go_wp2
  rw [rounds_succ]
  go_wp2
  go_ret
  refine ⟨rfl, setHit ?_ HT.out⟩
  repeat (first | exact Below.refl _ _ | refine Below.alloc ?_ (by (try simp); (try omega)) _)

set_option maxHeartbeats 8000000 in
set_option maxRecDepth 100000 in
theorem as3_any (c : Int) (r s : ByteArray) (b p : Nat) (old : Value) (w : World) (hp : w.cell? ⟨p, 0, none⟩ = some (.pointer (some ⟨b, 0, none⟩))) (ht : w.cell? ⟨b, 0, none⟩ = some old) (hf : w.frozen? ⟨b, 0, none⟩ = false) :
    Calls Tryz.prog 104 #[aboutV r (aboutV s (reasonV c)), .iface 113 (.pointer (some ⟨b, 0, none⟩)), targetV p, rtypeV 111] w fun e w' => e = .returned (.bool true) ∧ AsHit b c w w' := by
  unfold reasonV targetV rtypeV aboutV
  have hpl := block_lt_of_cell hp
  have hbl := block_lt_of_cell ht
  dsimp only at hpl hbl
  have HF : Hid (AsHit b c w (w.setCell ⟨b, 0, none⟩ (.int .i64 c))) := AsHit.set ht
  have HT : Hid (w.cell? ⟨b, 0, none⟩ = some old) := ht
  have hT := @run_callFunc_extern Tryz.prog 119 _ ReflectliteType.typeOf Tryz.func119 (by kernel_rfl) (by kernel_rfl) (by kernel_rfl) (by kernel_rfl)
  have hA := @run_callFunc_extern Tryz.prog 236 _ (ReflectliteType.relation "AssignableTo" ReflectliteType.assignableTo) Tryz.func236 (by kernel_rfl) (by kernel_rfl) (by kernel_rfl) (by kernel_rfl)
  have hE := @run_callFunc_extern Tryz.prog 120 _ (ReflectliteValue.method (ReflectliteValue.valueError "reflectlite.Value.Elem" 0) ReflectliteValue.elem) Tryz.func120 (by kernel_rfl) (by kernel_rfl) (by kernel_rfl) (by kernel_rfl)
  have hV := @run_callFunc_extern Tryz.prog 101 _ (fun args => ReflectliteValue.unpack (args.getD 0 (.tuple #[]))) Tryz.func101 (by kernel_rfl) (by kernel_rfl) (by kernel_rfl) (by kernel_rfl)
  have hS := @run_callFunc_extern Tryz.prog 121 _ ReflectliteValue.set Tryz.func121 (by kernel_rfl) (by kernel_rfl) (by kernel_rfl) (by kernel_rfl)
  have tO := asTypeOfR
  have mA := asMethodAssignableTo
  have aR := asAssignR
  have vR := asValueR
  have tA := asTypeOfA
  have aA := asAssignA
  have na := asNoAs
  have uw := asUnwraps
  have mU := asMethodUnwrap
  have el := asElemV ⟨p, 0, none⟩ ⟨b, 0, none⟩ (((w.alloc (.cells #[.pointer (some ⟨4, 113, none⟩), .pointer (some ⟨p, 0, none⟩), .int .u64 150] 136)).alloc (.cells #[.string r, .iface 149 (.agg #[.string s, .iface 111 (.agg #[.int .i64 c])])] 149)).alloc (.cells #[.string s, .iface 111 (.agg #[.int .i64 c])] 149)) (by rw [World.cell?_alloc_lt _ _ ⟨p, 0, none⟩ (by simp; omega), World.cell?_alloc_lt _ _ ⟨p, 0, none⟩ (by simp; omega), World.cell?_alloc_lt _ _ ⟨p, 0, none⟩ hpl]; exact hp)
  have st := asSet ⟨b, 0, none⟩ ⟨w.heap.size + 1 + 1 + 1, 0, none⟩ c old ((((w.alloc (.cells #[.pointer (some ⟨4, 113, none⟩), .pointer (some ⟨p, 0, none⟩), .int .u64 150] 136)).alloc (.cells #[.string r, .iface 149 (.agg #[.string s, .iface 111 (.agg #[.int .i64 c])])] 149)).alloc (.cells #[.string s, .iface 111 (.agg #[.int .i64 c])] 149)).alloc (.cells #[.int .i64 c] 111))
    (by rw [World.cell?_alloc_at _ _ _ _ (by simp)]; rfl)
    (by rw [World.cell?_alloc_lt _ _ ⟨b, 0, none⟩ (by simp; omega), World.cell?_alloc_lt _ _ ⟨b, 0, none⟩ (by simp; omega), World.cell?_alloc_lt _ _ ⟨b, 0, none⟩ (by simp; omega), World.cell?_alloc_lt _ _ ⟨b, 0, none⟩ hbl]; exact ht)
    (by rw [World.frozen?_alloc_old _ _ ⟨b, 0, none⟩ (by simp; omega), World.frozen?_alloc_old _ _ ⟨b, 0, none⟩ (by simp; omega), World.frozen?_alloc_old _ _ ⟨b, 0, none⟩ (by simp; omega), World.frozen?_alloc_old _ _ ⟨b, 0, none⟩ (Nat.ne_of_lt hbl)]; exact hf)
  go_enter Tryz.func104, Tryz.ntmps104
  go_wp2
  refine wp_loop_rounds 3 ?_
  rw [rounds_succ]
  go_wp2
  rw [rounds_succ]
  go_wp2
  rw [rounds_succ]
  go_wp2
  go_ret
  refine ⟨rfl, setHit ?_ HT.out⟩
  repeat (first | exact Below.refl _ _ | refine Below.alloc ?_ (by (try simp); (try omega)) _)

end Go.Proofs.YtfmhkicncgccjaaGreatDoor

/- What codeOf, about and reasonIf answer. -/
namespace Go.Proofs.YtfmhkicncgccjaaGreatDoor
open Go.RowKit Go.Extern.Stop Go.Stop Go.Extern
set_option linter.unusedSimpArgs false
set_option linter.unusedVariables false

/-- The library's variable errors.errorType holds the handle of the type error. -/
def ErrType (w : World) : Prop := w.cell? ⟨0, 0, none⟩ = some (rtypeV 70)
theorem ErrType.later {w w' : World} (h : ErrType w) (hb : Below w.heap.size w w') : ErrType w' := (hb.cell (p := ⟨0, 0, none⟩) (block_lt_of_cell h)).trans h

set_option maxHeartbeats 8000000 in
set_option maxRecDepth 100000 in
theorem as_of (t : TypeId) (v : Value) (c : Int) (b : Nat) (old : Value) (w : World) (hg : ErrType w) (ht : w.cell? ⟨b, 0, none⟩ = some old) (hf : w.frozen? ⟨b, 0, none⟩ = false)
    (hcall : ∀ (p : Nat) (W : World), W.cell? ⟨p, 0, none⟩ = some (.pointer (some ⟨b, 0, none⟩)) → W.cell? ⟨b, 0, none⟩ = some old → W.frozen? ⟨b, 0, none⟩ = false →
      Calls Tryz.prog 104 #[.iface t v, .iface 113 (.pointer (some ⟨b, 0, none⟩)), targetV p, rtypeV 111] W fun e w' => e = .returned (.bool true) ∧ AsHit b c W w') :
    Calls Tryz.prog 78 #[.iface t v, .iface 113 (.pointer (some ⟨b, 0, none⟩))] w fun e w' => e = .returned (.bool true) ∧ AsHit b c w w' := by
  have hbl := block_lt_of_cell ht
  have hgl := block_lt_of_cell hg
  dsimp only at hbl hgl
  have hV := @run_callFunc_extern Tryz.prog 101 _ (fun args => ReflectliteValue.unpack (args.getD 0 (.tuple #[]))) Tryz.func101 (by kernel_rfl) (by kernel_rfl) (by kernel_rfl) (by kernel_rfl)
  have hY := @run_callFunc_extern Tryz.prog 102 _ (ReflectliteValue.methodAny (ReflectliteValue.valueError "reflectlite.Value.Type" 0) (fun t _ _ _ => ReflectliteType.toType t)) Tryz.func102 (by kernel_rfl) (by kernel_rfl) (by kernel_rfl) (by kernel_rfl)
  have hN := @run_callFunc_extern Tryz.prog 103 _ (ReflectliteValue.method (ReflectliteValue.valueError "reflectlite.Value.IsNil" 0) ReflectliteValue.isNil) Tryz.func103 (by kernel_rfl) (by kernel_rfl) (by kernel_rfl) (by kernel_rfl)
  have hK := @run_callFunc_extern Tryz.prog 226 _ (ReflectliteType.abiMethod fun t => do pure (.int .u8 (← Rtype.kind t))) Tryz.func226 (by kernel_rfl) (by kernel_rfl) (by kernel_rfl) (by kernel_rfl)
  have hL := @run_callFunc_extern Tryz.prog 238 _ (ReflectliteType.method ReflectliteType.elem) Tryz.func238 (by kernel_rfl) (by kernel_rfl) (by kernel_rfl) (by kernel_rfl)
  have hI := @run_callFunc_extern Tryz.prog 239 _ (ReflectliteType.relation "Implements" ReflectliteType.implements_) Tryz.func239 (by kernel_rfl) (by kernel_rfl) (by kernel_rfl) (by kernel_rfl)
  have f6 := asValueOf
  have f7 := asType
  have mK := asMethodKind
  have mE := asMethodElem
  have mI := asMethodImplements
  have kP := asKindP
  have kR := asKindR
  have eP := asElemP
  have iR := asImplements
  have n8 := asIsNil ⟨w.heap.size, 0, none⟩ ⟨b, 0, none⟩ ((w.alloc (.cells #[.pointer (some ⟨b, 0, none⟩)] 113)).alloc (.cells #[.pointer (some ⟨4, 113, none⟩), .pointer (some ⟨w.heap.size, 0, none⟩), .int .u64 150] 136)) (by simp)
  have hg2 : ((w.alloc (.cells #[.pointer (some ⟨b, 0, none⟩)] 113)).alloc (.cells #[.pointer (some ⟨4, 113, none⟩), .pointer (some ⟨w.heap.size, 0, none⟩), .int .u64 150] 136)).cell? ⟨0, 0, none⟩ = some (.iface 158 (.agg #[.pointer (some ⟨4, 70, none⟩)])) := by
    rw [World.cell?_alloc_lt _ _ ⟨0, 0, none⟩ (by simp), World.cell?_alloc_lt _ _ ⟨0, 0, none⟩ hgl]; exact hg
  have b2 : Below w.heap.size w ((w.alloc (.cells #[.pointer (some ⟨b, 0, none⟩)] 113)).alloc (.cells #[.pointer (some ⟨4, 113, none⟩), .pointer (some ⟨w.heap.size, 0, none⟩), .int .u64 150] 136)) := ((Below.refl _ _).alloc (Nat.le_refl _) _).alloc (by simp) _
  have HB : Hid (Below w.heap.size w ((w.alloc (.cells #[.pointer (some ⟨b, 0, none⟩)] 113)).alloc (.cells #[.pointer (some ⟨4, 113, none⟩), .pointer (some ⟨w.heap.size, 0, none⟩), .int .u64 150] 136))) := b2
  have hc := hcall w.heap.size ((w.alloc (.cells #[.pointer (some ⟨b, 0, none⟩)] 113)).alloc (.cells #[.pointer (some ⟨4, 113, none⟩), .pointer (some ⟨w.heap.size, 0, none⟩), .int .u64 150] 136)) (by simp)
    (by rw [b2.cell (p := ⟨b, 0, none⟩) hbl]; exact ht) (by rw [World.frozen?_alloc_old _ _ ⟨b, 0, none⟩ (by simp; omega), World.frozen?_alloc_old _ _ ⟨b, 0, none⟩ (Nat.ne_of_lt hbl)]; exact hf)
  unfold targetV rtypeV at hc
  clear hcall b2 hg ht hf
  go_enter Tryz.func78, Tryz.ntmps78
  go_wp2_with (go_at_call 104; refine hc.mono ?_; rintro e w' ⟨rfl, hh⟩)
  go_ret
  exact ⟨rfl, hh.1, (HB.out.mono (Nat.le_of_lt hbl)).trans hh.2⟩

end Go.Proofs.YtfmhkicncgccjaaGreatDoor
