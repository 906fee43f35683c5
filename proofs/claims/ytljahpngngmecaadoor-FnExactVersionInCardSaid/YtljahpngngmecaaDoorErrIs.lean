/- errors.Is at sentinels of errors.New's make: the same one, nil, another one. -/
import Derived.Test.YtljahpngngmecaaDoorRows
import Derived.ProofKit
import Derived.WalkKit
import Derived.LaidEql
import Derived.Stop.Asserts
import Derived.RowKitTokens
namespace Go.Proofs.YtljahpngngmecaaDoor.erris
open Go.RowKit Go.Extern.Stop Go.Stop Go.Extern
set_option linter.unusedVariables false

/-! What the look at the target's type gives; what the assertions on the error find. -/
theorem type_of (v : Value) (w : World) : (callFunc 53 #[.iface 87 v]).run Tryd.prog w = .ok (.value (.iface 77 (.agg #[.pointer (some ⟨Tryd.prog.globals.size, 87, none⟩)]))) w := by
  rw [@run_callFunc_extern Tryd.prog 53 _ Extern.ReflectliteType.typeOf Tryd.func53 (by kernel_rfl) (by kernel_rfl) (by kernel_rfl) (by kernel_rfl)]
  kernel_rfl
theorem comparable_ (k : Nat) (h : k = Tryd.prog.globals.size) (w : World) : (callFunc 77 #[.agg #[.pointer (some ⟨k, 87, none⟩)]]).run Tryd.prog w = .ok (.value (.bool true)) w := by
  subst h
  rw [@run_callFunc_extern Tryd.prog 77 _ (Extern.ReflectliteType.method fun t => do Extern.Rtype.noPackHeld "Comparable" t; pure (.bool (← typeInfo t).comparable)) Tryd.func77 (by kernel_rfl) (by kernel_rfl) (by kernel_rfl) (by kernel_rfl)]
  kernel_rfl
theorem method_ (n : Nat) (v : Value) (w : World) : (Go.method (n + 1) 77 v "Comparable").run Tryd.prog w = .ok (77, v) w := by kernel_rfl
theorem info_cmp : (Tryd.prog.info? 87).map (·.comparable) = some true := by kernel_rfl
theorem info_size : (Tryd.prog.info? 113).map (·.size) = some 1 := by kernel_rfl
theorem no_is (v : Value) (x : TypeId) (w : World) : (Instr.typeAssert (.iface 87 v) x 79 true).run Tryd.prog w = .ok (.tuple #[.nilIface, .bool false]) w := run_typeAssert_lacksB Tryd.underlying79 (by kernel_rfl) (by kernel_rfl) v x w
theorem no_unwrap (v : Value) (x : TypeId) (w : World) : (Instr.typeAssert (.iface 87 v) x 82 true).run Tryd.prog w = .ok (.tuple #[.nilIface, .bool false]) w := run_typeAssert_lacksB Tryd.underlying82 (by kernel_rfl) (by kernel_rfl) v x w
theorem no_unwraps (v : Value) (x : TypeId) (w : World) : (Instr.typeAssert (.iface 87 v) x 84 true).run Tryd.prog w = .ok (.tuple #[.nilIface, .bool false]) w := run_typeAssert_lacksB Tryd.underlying84 (by kernel_rfl) (by kernel_rfl) v x w

theorem is_nil (b : Addr) (w : World) :
    Calls Tryd.prog 42 #[.nilIface, .iface 87 (.pointer (some b))] w fun e w' => e = .returned (.bool false) ∧ w = w' := by
  have hn := run_eql_iface_nil_left (P := Tryd.prog) w 87 (.pointer (some b)) Tryd.underlying51
  go_enter Tryd.func42, Tryd.ntmps42
  go_wp2
  go_ret
  exact ⟨rfl, rfl⟩
set_option maxRecDepth 100000 in
theorem is_same (a : Addr) (w : World) :
    Calls Tryd.prog 42 #[.iface 87 (.pointer (some a)), .iface 87 (.pointer (some a))] w fun e w' => e = .returned (.bool true) ∧ w = w' := by
  obtain ⟨i, hi, hcmp⟩ := Option.map_eq_some_iff.1 info_cmp
  obtain ⟨j, hj, hjs⟩ := Option.map_eq_some_iff.1 info_size
  have f1 := type_of
  have f2 := comparable_
  have f3 := method_
  have heq := run_eql_iface_ptr_same (P := Tryd.prog) w a Tryd.underlying51 Tryd.underlying87 hi hcmp hj
  go_enter Tryd.func42, Tryd.ntmps42
  go_wp2
  refine wp_loop_rounds 1 ?_
  rw [rounds_succ]
  go_wp2
  go_ret
  exact ⟨rfl, rfl⟩
set_option maxRecDepth 100000 in
theorem is_other (a b : Addr) (ca cb : Array Value) (ta tb : TypeId) (w : World) (hne : a ≠ b) (ha : w.heap[a.block]? = some (.cells ca ta (0, 0))) (hb : w.heap[b.block]? = some (.cells cb tb (0, 0))) :
    Calls Tryd.prog 42 #[.iface 87 (.pointer (some a)), .iface 87 (.pointer (some b))] w fun e w' => e = .returned (.bool false) ∧ w = w' := by
  obtain ⟨i, hi, hcmp⟩ := Option.map_eq_some_iff.1 info_cmp
  obtain ⟨j, hj, hjs⟩ := Option.map_eq_some_iff.1 info_size
  have f1 := type_of
  have f2 := comparable_
  have f3 := method_
  have n1 := no_is
  have n2 := no_unwrap
  have n3 := no_unwraps
  have heq := run_eql_iface_ptr_other (P := Tryd.prog) w Tryd.underlying51 Tryd.underlying87 hi hcmp hj (by rw [hjs]; decide) hne ha hb
  go_enter Tryd.func42, Tryd.ntmps42
  go_wp2
  refine wp_loop_rounds 1 ?_
  rw [rounds_succ]
  go_wp2
  go_ret
  exact ⟨rfl, rfl⟩
end Go.Proofs.YtljahpngngmecaaDoor.erris
