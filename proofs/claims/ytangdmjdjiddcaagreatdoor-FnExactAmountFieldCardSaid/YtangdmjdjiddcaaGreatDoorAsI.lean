/- errors.As at a nil error and at an error of the target's own type (impl.fieldError: a struct of three cells); after the toy 'toyas'. -/
import Derived.Test.YtangdmjdjiddcaaGreatDoorFErrI
import Derived.Test.YtangdmjdjiddcaaGreatDoorRows
import Derived.WalkKit
import Derived.LaidEql
import Derived.Stop.Asserts
import Derived.RowKitTokens
import Derived.Deep.LoopGhost
import Derived.ProofKit
namespace Go.Proofs.YtangdmjdjiddcaaGreatDoor.field
open Go.ChangeShapes Go.WideShapes Go.ChangeAt Go.RowKit Go.Extern.Stop Go.Stop Go.Extern
set_option linter.unusedVariables false
set_option linter.unusedSimpArgs false

theorem as_nil (t : Value) (w : World) :
    Calls Tryz.prog 47 #[.nilIface, t] w fun e w' => e = .returned (.bool false) ∧ w' = w := by
  go_enter Tryz.func47, Tryz.ntmps47
  go_wp2
  go_ret
  exact ⟨rfl, rfl⟩
theorem rl_valueOfP (t : Addr) (w : World) : (ReflectliteValue.unpack (.iface 82 (.pointer (some t)))).run Tryz.prog w
    = .ok (.agg #[.pointer (some ⟨nG, 82, none⟩), .pointer (some ⟨w.heap.size, 0, none⟩), .int .u64 150]) (w.alloc (.cells #[.pointer (some t)] 82)) := by kernel_rfl
theorem rl_typeP (a : Addr) (w : World) : (ReflectliteValue.methodAny (ReflectliteValue.valueError "reflectlite.Value.Type" 0) (fun t _ _ _ => ReflectliteType.toType t) #[.agg #[.pointer (some ⟨nG, 82, none⟩), .pointer (some a), .int .u64 150]]).run Tryz.prog w
    = .ok (.iface 118 (.agg #[.pointer (some ⟨nG, 82, none⟩)])) w := by kernel_rfl
theorem rl_methodKind (n : Nat) (h : Value) (w : World) : (Go.method (n + 1) 118 (.agg #[h]) "Kind").run Tryz.prog w = .ok (159, h) w := by kernel_rfl
theorem rl_kindP (w : World) : ((ReflectliteType.abiMethod fun t => (fun a : Nat => Value.int IntKind.u8 (a : Int)) <$> Rtype.kind t) #[.pointer (some ⟨nG, 82, none⟩)]).run Tryz.prog w = .ok (.int .u8 22) w := by kernel_rfl
theorem rl_kindE (w : World) : ((ReflectliteType.abiMethod fun t => (fun a : Nat => Value.int IntKind.u8 (a : Int)) <$> Rtype.kind t) #[.pointer (some ⟨nG, 80, none⟩)]).run Tryz.prog w = .ok (.int .u8 25) w := by kernel_rfl
theorem rlm (z : Sem Value) (f : TypeId → Addr → Nat → Nat → Sem Value) (v : Value) :
    ReflectliteValue.method z f #[v] = (do match ← ReflectliteValue.parts v with | none => z | some (t, a, fl) => f t a fl (fl % 32)) := rfl
theorem rl_partsP (a : Addr) (w : World) : (ReflectliteValue.parts (.agg #[.pointer (some ⟨nG, 82, none⟩), .pointer (some a), .int .u64 150])).run Tryz.prog w = .ok (some (82, a, 150)) w := by kernel_rfl
theorem rl_isNil (a p : Addr) (W : World) (ha : W.cell? a = some (.pointer (some p))) :
    (ReflectliteValue.method (ReflectliteValue.valueError "reflectlite.Value.IsNil" 0) ReflectliteValue.isNil #[.agg #[.pointer (some ⟨nG, 82, none⟩), .pointer (some a), .int .u64 150]]).run Tryz.prog W = .ok (.bool false) W := by
  rw [rlm]
  simp only [Sem.run_bind, rl_partsP, Result.andThen]
  simp [ReflectliteValue.isNil, loadVar, isAgg, underlying, Tryz.underlying82, ha, Result.andThen]
theorem rl_methodElem (n : Nat) (h : Value) (w : World) : (Go.method (n + 1) 118 (.agg #[h]) "Elem").run Tryz.prog w = .ok (169, .agg #[h]) w := by kernel_rfl
theorem rl_methodImplements (n : Nat) (h : Value) (w : World) : (Go.method (n + 1) 118 (.agg #[h]) "Implements").run Tryz.prog w = .ok (170, .agg #[h]) w := by kernel_rfl
theorem rl_methodAssignableTo (n : Nat) (h : Value) (w : World) : (Go.method (n + 1) 118 (.agg #[h]) "AssignableTo").run Tryz.prog w = .ok (167, .agg #[h]) w := by kernel_rfl
theorem rl_elemP (w : World) : (ReflectliteType.method ReflectliteType.elem #[.agg #[.pointer (some ⟨nG, 82, none⟩)]]).run Tryz.prog w = .ok (.iface 118 (.agg #[.pointer (some ⟨nG, 80, none⟩)])) w := by kernel_rfl
theorem rl_implements (w : World) : (ReflectliteType.relation "Implements" ReflectliteType.implements_ #[.agg #[.pointer (some ⟨nG, 80, none⟩)], .iface 118 (.agg #[.pointer (some ⟨nG, 50, none⟩)])]).run Tryz.prog w = .ok (.bool true) w := by kernel_rfl
theorem rl_typeOf (v : Value) (w : World) : (ReflectliteType.typeOf #[.iface 80 v]).run Tryz.prog w = .ok (.iface 118 (.agg #[.pointer (some ⟨nG, 80, none⟩)])) w := by kernel_rfl
theorem rl_assignable (w : World) : (ReflectliteType.relation "AssignableTo" ReflectliteType.assignableTo #[.agg #[.pointer (some ⟨nG, 80, none⟩)], .iface 118 (.agg #[.pointer (some ⟨nG, 80, none⟩)])]).run Tryz.prog w = .ok (.bool true) w := by kernel_rfl
theorem rl_valueOfE (c : Int) (q : ByteArray) (w : World) : (ReflectliteValue.unpack (.iface 80 (.agg #[.int .i64 c, .int .i64 0, .string q]))).run Tryz.prog w
    = .ok (.agg #[.pointer (some ⟨nG, 80, none⟩), .pointer (some ⟨w.heap.size, 0, none⟩), .int .u64 153]) (w.alloc (.cells #[.int .i64 c, .int .i64 0, .string q] 80)) := by kernel_rfl
theorem rl_elemOf (w : World) : (Rtype.elem? 82).run Tryz.prog w = .ok (some 80) w := by kernel_rfl
theorem rl_mk (p : Addr) (w : World) : (ReflectliteValue.mk 80 p ReflectliteValue.flagAddr).run Tryz.prog w = .ok (.agg #[.pointer (some ⟨nG, 80, none⟩), .pointer (some p), .int .u64 409]) w := by kernel_rfl
theorem rl_elemV (a p : Addr) (W : World) (ha : W.cell? a = some (.pointer (some p))) :
    (ReflectliteValue.method (ReflectliteValue.valueError "reflectlite.Value.Elem" 0) ReflectliteValue.elem #[.agg #[.pointer (some ⟨nG, 82, none⟩), .pointer (some a), .int .u64 150]]).run Tryz.prog W
      = .ok (.agg #[.pointer (some ⟨nG, 80, none⟩), .pointer (some p), .int .u64 409]) W := by
  rw [rlm]
  simp only [Sem.run_bind, rl_partsP, Result.andThen]
  simp [ReflectliteValue.elem, loadVar, isAgg, underlying, Tryz.underlying82, ha, Result.andThen, rl_elemOf, rl_mk]
theorem rls (v x : Value) : ReflectliteValue.set #[v, x] = (do
    let (some (dst, a, fl), some (src, b, _)) := (← ReflectliteValue.parts v, ← ReflectliteValue.parts x)
      | unsupported (.noEntry "extern/(internal/reflectlite.Value).Set.zeroValue")
    if fl / ReflectliteValue.flagAddr % 2 == 0 then unsupported (.noEntry "extern/(internal/reflectlite.Value).Set.unaddressable")
    let val ← loadVar src b
    if ← Rtype.directlyAssignable dst src then storeVar dst a val
    else if ← Rtype.implements dst src then
      if (← Rtype.kind src) == 20 then
        match val with
        | .nilIface => unsupported (.noEntry "extern/reflectlite: a nil value of one interface type handed on as a value of another")
        | _ => storeVar dst a val
      else storeVar dst a (.iface src val)
    else panicString ("reflectlite.Set: value of type " ++ (← Rtype.spelt src) ++ " is not assignable to type " ++ (← Rtype.spelt dst))
    pure (.tuple #[])) := rfl
theorem rl_partsA (a : Addr) (w : World) : (ReflectliteValue.parts (.agg #[.pointer (some ⟨nG, 80, none⟩), .pointer (some a), .int .u64 409])).run Tryz.prog w = .ok (some (80, a, 409)) w := by kernel_rfl
theorem rl_partsE (a : Addr) (w : World) : (ReflectliteValue.parts (.agg #[.pointer (some ⟨nG, 80, none⟩), .pointer (some a), .int .u64 153])).run Tryz.prog w = .ok (some (80, a, 153)) w := by kernel_rfl
theorem rl_direct (w : World) : (Rtype.directlyAssignable 80 80).run Tryz.prog w = .ok true w := by kernel_rfl
theorem rl_set (g b : Nat) (old c : Array Value) (W : World) (hb : W.heap[b]? = some (.cells c 80 (0, 0))) (hc : c.size = 3) (h1 : c.all (·.oneCell') = true) (ht : W.heap[g]? = some (.cells old 80 (0, 0))) (ho : old.size = 3) :
    (ReflectliteValue.set #[.agg #[.pointer (some ⟨nG, 80, none⟩), .pointer (some ⟨g, 0, none⟩), .int .u64 409], .agg #[.pointer (some ⟨nG, 80, none⟩), .pointer (some ⟨b, 0, none⟩), .int .u64 153]]).run Tryz.prog W = .ok (.tuple #[]) (W.setRow g c) := by
  have hl := run_loadVar_row (P := Tryz.prog) W b 80 80 c (0, 0) _ hb Tryz.underlying80 rfl (by rw [hc]; exact sizeFE)
  have hs := run_storeVar_row (P := Tryz.prog) W g 80 80 old c ht (by rw [hc]; exact sizeFE) (by rw [ho, hc]) h1
  rw [rls]
  simp only [Sem.run_bind, rl_partsA, rl_partsE, Result.andThen]
  simp [ReflectliteValue.flagAddr, hl, Result.andThen, rl_direct, hs]

set_option maxRecDepth 100000 in
set_option maxHeartbeats 4000000 in
theorem as_hit (c : Int) (q : ByteArray) (w0 : World) (hg : ET w0) :
    Calls Tryz.prog 47 #[.iface 80 (.agg #[.int .i64 c, .int .i64 0, .string q]), .iface 82 (.pointer (some ⟨w0.heap.size, 0, none⟩))] (w0.alloc (.cells #[.int .i64 0, .int .i64 0, .string ⟨#[]⟩] 80)) fun ev w' =>
      ev = .returned (.bool true) ∧ w'.heap[w0.heap.size]? = some (.cells #[.int .i64 c, .int .i64 0, .string q] 80 (0, 0)) ∧ Below w0.heap.size w0 w' := by
  have h6 := @run_callFunc_extern Tryz.prog 65 _ (fun args => ReflectliteValue.unpack (args.getD 0 (.tuple #[]))) Tryz.func65 (by kernel_rfl) (by kernel_rfl) (by kernel_rfl) (by kernel_rfl)
  have h7 := @run_callFunc_extern Tryz.prog 66 _ (ReflectliteValue.methodAny (ReflectliteValue.valueError "reflectlite.Value.Type" 0) (fun t _ _ _ => ReflectliteType.toType t)) Tryz.func66 (by kernel_rfl) (by kernel_rfl) (by kernel_rfl) (by kernel_rfl)
  have h8 := @run_callFunc_extern Tryz.prog 67 _ (ReflectliteValue.method (ReflectliteValue.valueError "reflectlite.Value.IsNil" 0) ReflectliteValue.isNil) Tryz.func67 (by kernel_rfl) (by kernel_rfl) (by kernel_rfl) (by kernel_rfl)
  have h27 := @run_callFunc_extern Tryz.prog 159 _ (ReflectliteType.abiMethod fun t => do pure (.int .u8 (← Rtype.kind t))) Tryz.func159 (by kernel_rfl) (by kernel_rfl) (by kernel_rfl) (by kernel_rfl)
  have h37 := @run_callFunc_extern Tryz.prog 169 _ (ReflectliteType.method ReflectliteType.elem) Tryz.func169 (by kernel_rfl) (by kernel_rfl) (by kernel_rfl) (by kernel_rfl)
  have h38 := @run_callFunc_extern Tryz.prog 170 _ (ReflectliteType.relation "Implements" ReflectliteType.implements_) Tryz.func170 (by kernel_rfl) (by kernel_rfl) (by kernel_rfl) (by kernel_rfl)
  have h10 := @run_callFunc_extern Tryz.prog 81 _ ReflectliteType.typeOf Tryz.func81 (by kernel_rfl) (by kernel_rfl) (by kernel_rfl) (by kernel_rfl)
  have h35 := @run_callFunc_extern Tryz.prog 167 _ (ReflectliteType.relation "AssignableTo" ReflectliteType.assignableTo) Tryz.func167 (by kernel_rfl) (by kernel_rfl) (by kernel_rfl) (by kernel_rfl)
  have h11 := @run_callFunc_extern Tryz.prog 82 _ (ReflectliteValue.method (ReflectliteValue.valueError "reflectlite.Value.Elem" 0) ReflectliteValue.elem) Tryz.func82 (by kernel_rfl) (by kernel_rfl) (by kernel_rfl) (by kernel_rfl)
  have h12 := @run_callFunc_extern Tryz.prog 83 _ ReflectliteValue.set Tryz.func83 (by kernel_rfl) (by kernel_rfl) (by kernel_rfl) (by kernel_rfl)
  have tO := rl_typeOf
  have mA := rl_methodAssignableTo
  have a25 := rl_assignable
  have v25 := rl_valueOfE c q
  have f6 := rl_valueOfP
  have f7 := rl_typeP
  have mK := rl_methodKind
  have mE := rl_methodElem
  have mI := rl_methodImplements
  have k27 := rl_kindP
  have k25 := rl_kindE
  have e27 := rl_elemP
  have i25 := rl_implements
  obtain ⟨w, hw⟩ : ∃ w, w = w0.alloc (.cells #[.int .i64 0, .int .i64 0, .string ⟨#[]⟩] 80) := ⟨_, rfl⟩
  have hsz : w.heap.size = w0.heap.size + 1 := by rw [hw]; simp
  have hb0 : Below w0.heap.size w0 w := by subst hw; exact (Below.refl _ _).alloc (Nat.le_refl _) _
  have ht0 : w.heap[w0.heap.size]? = some (.cells #[.int .i64 0, .int .i64 0, .string ⟨#[]⟩] 80 (0, 0)) := by subst hw; exact heap_alloc_new w0 _
  have hgw' := hg.below hb0
  rw [← hw]
  obtain ⟨g0, hg0⟩ : ∃ g0, g0 = w0.heap.size := ⟨_, rfl⟩
  rw [← hg0] at ht0 hb0 hsz ⊢
  have hlt : 0 < w.heap.size := by omega
  -- the four new blocks
  obtain ⟨wa, hwa⟩ : ∃ x, x = w.alloc (.cells #[.pointer (some ⟨g0, 0, none⟩)] 82) := ⟨_, rfl⟩
  obtain ⟨wb, hwb⟩ : ∃ x, x = wa.alloc (.cells #[.pointer (some ⟨nG, 82, none⟩), .pointer (some ⟨w.heap.size, 0, none⟩), .int .u64 150] 101) := ⟨_, rfl⟩
  obtain ⟨wc, hwc⟩ : ∃ x, x = wb.alloc (.cells #[.pointer (some ⟨nG, 82, none⟩), .pointer (some ⟨w.heap.size, 0, none⟩), .int .u64 150] 101) := ⟨_, rfl⟩
  obtain ⟨wd, hwd⟩ : ∃ x, x = wc.alloc (.cells #[.int .i64 c, .int .i64 0, .string q] 80) := ⟨_, rfl⟩
  have sa : wa.heap.size = w.heap.size + 1 := by rw [hwa]; simp
  have sb : wb.heap.size = w.heap.size + 2 := by rw [hwb]; simp [sa]
  have sc : wc.heap.size = w.heap.size + 3 := by rw [hwc]; simp [sb]
  have ba : Below w.heap.size w wa := by subst hwa; exact (Below.refl _ _).alloc (Nat.le_refl _) _
  have bb : Below w.heap.size w wb := by subst hwb; exact ba.alloc (by omega) _
  have bc : Below w.heap.size w wc := by subst hwc; exact bb.alloc (by omega) _
  have bd : Below w.heap.size w wd := by subst hwd; exact bc.alloc (by omega) _
  have va : wa.heap[w.heap.size]? = some (.cells #[.pointer (some ⟨g0, 0, none⟩)] 82 (0, 0)) := by subst hwa; exact heap_alloc_new w _
  have vb : wb.heap[w.heap.size]? = some (.cells #[.pointer (some ⟨g0, 0, none⟩)] 82 (0, 0)) := by subst hwb; rw [Below.heap_alloc _ _ _ (by omega)]; exact va
  have vc : wc.heap[w.heap.size]? = some (.cells #[.pointer (some ⟨g0, 0, none⟩)] 82 (0, 0)) := by subst hwc; rw [Below.heap_alloc _ _ _ (by omega)]; exact vb
  have td : wd.heap[g0]? = some (.cells #[.int .i64 0, .int .i64 0, .string ⟨#[]⟩] 80 (0, 0)) := heap_kept bd (heap_lt ht0) ht0
  have vd : wd.heap[w.heap.size + 3]? = some (.cells #[.int .i64 c, .int .i64 0, .string q] 80 (0, 0)) := by subst hwd; rw [← sc]; exact heap_alloc_new wc _
  have n8 := rl_isNil ⟨w.heap.size, 0, none⟩ ⟨g0, 0, none⟩ wb (by simpa using cell_of_row wb w.heap.size 0 _ _ _ vb)
  have el := rl_elemV ⟨w.heap.size, 0, none⟩ ⟨g0, 0, none⟩ wc (by simpa using cell_of_row wc w.heap.size 0 _ _ _ vc)
  have st := rl_set g0 (w.heap.size + 1 + 1 + 1) _ _ wd vd rfl (by simp [Value.oneCell']) td rfl
  have hg2 : wb.cell? ⟨0, 0, none⟩ = some (.iface 118 (.agg #[.pointer (some ⟨nG, 50, none⟩)])) := (hgw'.below bb).cell
  have Hend := Lib.hid (show (wd.setRow g0 #[.int .i64 c, .int .i64 0, .string q]).heap[g0]? = some (.cells #[.int .i64 c, .int .i64 0, .string q] 80 (0, 0)) ∧ Below g0 w0 (wd.setRow g0 #[.int .i64 c, .int .i64 0, .string q]) from
    ⟨setRow_at td, setRow_below (hb0.trans (bd.mono (by omega))) (Nat.le_refl _) _⟩)
  rw [hwd, hwc, hwb, hwa] at st Hend
  rw [hwc, hwb, hwa] at el
  rw [hwb, hwa] at n8 hg2
  clear hw hb0 ht0 hgw' hg0 hg hsz hlt hwa hwb hwc hwd sa sb sc ba bb bc bd va vb vc td vd
  go_enter Tryz.func47, Tryz.ntmps47
  go_wp2
  refine wp_loop_rounds 1 ?_
  rw [rounds_succ]
  go_wp2
  go_ret
  exact ⟨rfl, Hend.out.1, Hend.out.2⟩
end Go.Proofs.YtangdmjdjiddcaaGreatDoor.field
