/- impl.nodeOf, and the nodes' method tree, by kind. -/
import Derived.Test.YtkgogbeknehphaaDoorGTree
namespace Go.Proofs.YtkgogbeknehphaaDoor.tree
open Go.ChangeShapes Go.WideShapes Go.ChangeAt Go.RowKit
set_option linter.unusedVariables false

theorem tree_nullNode  (w : World) :
    Calls Tryd.prog 94 #[.agg #[]] w fun e w' => e = .returned (.agg #[.int .i64 1, .bool false, .int .i64 0, .string ⟨#[]⟩, .slice none 0 0, .slice none 0 0]) ∧ Below w.heap.size w w' := by
  go_enter Tryd.func94, Tryd.ntmps94
  go_wp2_with fail
  refine bodyPost_ret (v := .agg #[.int .i64 1, .bool false, .int .i64 0, .string ⟨#[]⟩, .slice none 0 0, .slice none 0 0]) ?_ rfl ⟨rfl, ((Below.refl _ _).alloc (Nat.le_refl _) _).alloc (by simp) _⟩
  exact ret_tree rfl rfl rfl (by have h := heap_alloc_new (w.alloc (.cells #[] 80)) (.cells #[.int .i64 1, .bool false, .int .i64 0, .string ⟨#[]⟩, .slice none 0 0, .slice none 0 0] 30); rw [World.size_alloc] at h; exact h)
theorem tree_flagNode (fl : Bool) (w : World) :
    Calls Tryd.prog 95 #[.agg #[.bool fl]] w fun e w' => e = .returned (.agg #[.int .i64 2, .bool fl, .int .i64 0, .string ⟨#[]⟩, .slice none 0 0, .slice none 0 0]) ∧ Below w.heap.size w w' := by
  go_enter Tryd.func95, Tryd.ntmps95
  go_wp2_with fail
  refine bodyPost_ret (v := .agg #[.int .i64 2, .bool fl, .int .i64 0, .string ⟨#[]⟩, .slice none 0 0, .slice none 0 0]) ?_ rfl ⟨rfl, ((Below.refl _ _).alloc (Nat.le_refl _) _).alloc (by simp) _⟩
  exact ret_tree rfl rfl rfl (by have h := heap_alloc_new (w.alloc (.cells #[.bool fl] 82)) (.cells #[.int .i64 2, .bool fl, .int .i64 0, .string ⟨#[]⟩, .slice none 0 0, .slice none 0 0] 30); rw [World.size_alloc] at h; exact h)
theorem tree_intNode (n : Int) (w : World) :
    Calls Tryd.prog 96 #[.agg #[.int .i64 n]] w fun e w' => e = .returned (.agg #[.int .i64 3, .bool false, .int .i64 n, .string ⟨#[]⟩, .slice none 0 0, .slice none 0 0]) ∧ Below w.heap.size w w' := by
  go_enter Tryd.func96, Tryd.ntmps96
  go_wp2_with fail
  refine bodyPost_ret (v := .agg #[.int .i64 3, .bool false, .int .i64 n, .string ⟨#[]⟩, .slice none 0 0, .slice none 0 0]) ?_ rfl ⟨rfl, ((Below.refl _ _).alloc (Nat.le_refl _) _).alloc (by simp) _⟩
  exact ret_tree rfl rfl rfl (by have h := heap_alloc_new (w.alloc (.cells #[.int .i64 n] 84)) (.cells #[.int .i64 3, .bool false, .int .i64 n, .string ⟨#[]⟩, .slice none 0 0, .slice none 0 0] 30); rw [World.size_alloc] at h; exact h)
theorem tree_textNode (s : ByteArray) (w : World) :
    Calls Tryd.prog 97 #[.agg #[.string s]] w fun e w' => e = .returned (.agg #[.int .i64 4, .bool false, .int .i64 0, .string s, .slice none 0 0, .slice none 0 0]) ∧ Below w.heap.size w w' := by
  go_enter Tryd.func97, Tryd.ntmps97
  go_wp2_with fail
  refine bodyPost_ret (v := .agg #[.int .i64 4, .bool false, .int .i64 0, .string s, .slice none 0 0, .slice none 0 0]) ?_ rfl ⟨rfl, ((Below.refl _ _).alloc (Nat.le_refl _) _).alloc (by simp) _⟩
  exact ret_tree rfl rfl rfl (by have h := heap_alloc_new (w.alloc (.cells #[.string s] 86)) (.cells #[.int .i64 4, .bool false, .int .i64 0, .string s, .slice none 0 0, .slice none 0 0] 30); rw [World.size_alloc] at h; exact h)
theorem tree_listNode (A2 : Option Addr) (n2 c2 : Nat) (w : World) :
    Calls Tryd.prog 98 #[.agg #[.slice A2 n2 c2]] w fun e w' => e = .returned (.agg #[.int .i64 5, .bool false, .int .i64 0, .string ⟨#[]⟩, .slice none 0 0, .slice A2 n2 c2]) ∧ Below w.heap.size w w' := by
  go_enter Tryd.func98, Tryd.ntmps98
  go_wp2_with fail
  refine bodyPost_ret (v := .agg #[.int .i64 5, .bool false, .int .i64 0, .string ⟨#[]⟩, .slice none 0 0, .slice A2 n2 c2]) ?_ rfl ⟨rfl, ((Below.refl _ _).alloc (Nat.le_refl _) _).alloc (by simp) _⟩
  exact ret_tree rfl rfl rfl (by have h := heap_alloc_new (w.alloc (.cells #[.slice A2 n2 c2] 88)) (.cells #[.int .i64 5, .bool false, .int .i64 0, .string ⟨#[]⟩, .slice none 0 0, .slice A2 n2 c2] 30); rw [World.size_alloc] at h; exact h)
theorem tree_mapNode (A1 A2 : Option Addr) (n1 c1 n2 c2 : Nat) (w : World) :
    Calls Tryd.prog 99 #[.agg #[.slice A1 n1 c1, .slice A2 n2 c2]] w fun e w' => e = .returned (.agg #[.int .i64 6, .bool false, .int .i64 0, .string ⟨#[]⟩, .slice A1 n1 c1, .slice A2 n2 c2]) ∧ Below w.heap.size w w' := by
  go_enter Tryd.func99, Tryd.ntmps99
  go_wp2_with fail
  refine bodyPost_ret (v := .agg #[.int .i64 6, .bool false, .int .i64 0, .string ⟨#[]⟩, .slice A1 n1 c1, .slice A2 n2 c2]) ?_ rfl ⟨rfl, ((Below.refl _ _).alloc (Nat.le_refl _) _).alloc (by simp) _⟩
  exact ret_tree rfl rfl rfl (by have h := heap_alloc_new (w.alloc (.cells #[.slice A1 n1 c1, .slice A2 n2 c2] 90)) (.cells #[.int .i64 6, .bool false, .int .i64 0, .string ⟨#[]⟩, .slice A1 n1 c1, .slice A2 n2 c2] 30); rw [World.size_alloc] at h; exact h)
theorem nodeOf_1 (fl : Bool) (n : Int) (s : ByteArray) (A1 A2 : Option Addr) (n1 c1 n2 c2 : Nat) (w : World) :
    Calls Tryd.prog 37 #[.agg #[.int .i64 1, .bool fl, .int .i64 n, .string s, .slice A1 n1 c1, .slice A2 n2 c2]] w fun e w' => e = .returned (.tuple #[.iface 80 (.agg #[]), .bool true]) ∧ Below w.heap.size w w' := by
  have HB := Lib.hid (Box.new 30 w [.int .i64 1, .bool fl, .int .i64 n, .string s, .slice A1 n1 c1, .slice A2 n2 c2])
  have p0 := HB.out.cell (j := 0) rfl
  have p1 := HB.out.cell (j := 1) rfl
  have p2 := HB.out.cell (j := 2) rfl
  have p3 := HB.out.cell (j := 3) rfl
  have p4 := HB.out.cell (j := 4) rfl
  have p5 := HB.out.cell (j := 5) rfl
  go_enter Tryd.func37, Tryd.ntmps37
  go_wp2_with fail
  go_ret2
  exact ⟨rfl, HB.out.1⟩
theorem nodeOf_2 (fl : Bool) (n : Int) (s : ByteArray) (A1 A2 : Option Addr) (n1 c1 n2 c2 : Nat) (w : World) :
    Calls Tryd.prog 37 #[.agg #[.int .i64 2, .bool fl, .int .i64 n, .string s, .slice A1 n1 c1, .slice A2 n2 c2]] w fun e w' => e = .returned (.tuple #[.iface 82 (.agg #[.bool fl]), .bool true]) ∧ Below w.heap.size w w' := by
  have HB := Lib.hid (Box.new 30 w [.int .i64 2, .bool fl, .int .i64 n, .string s, .slice A1 n1 c1, .slice A2 n2 c2])
  have p0 := HB.out.cell (j := 0) rfl
  have p1 := HB.out.cell (j := 1) rfl
  have p2 := HB.out.cell (j := 2) rfl
  have p3 := HB.out.cell (j := 3) rfl
  have p4 := HB.out.cell (j := 4) rfl
  have p5 := HB.out.cell (j := 5) rfl
  go_enter Tryd.func37, Tryd.ntmps37
  go_wp2_with fail
  go_ret2
  exact ⟨rfl, HB.out.1⟩
theorem nodeOf_3 (fl : Bool) (n : Int) (s : ByteArray) (A1 A2 : Option Addr) (n1 c1 n2 c2 : Nat) (w : World) :
    Calls Tryd.prog 37 #[.agg #[.int .i64 3, .bool fl, .int .i64 n, .string s, .slice A1 n1 c1, .slice A2 n2 c2]] w fun e w' => e = .returned (.tuple #[.iface 84 (.agg #[.int .i64 n]), .bool true]) ∧ Below w.heap.size w w' := by
  have HB := Lib.hid (Box.new 30 w [.int .i64 3, .bool fl, .int .i64 n, .string s, .slice A1 n1 c1, .slice A2 n2 c2])
  have p0 := HB.out.cell (j := 0) rfl
  have p1 := HB.out.cell (j := 1) rfl
  have p2 := HB.out.cell (j := 2) rfl
  have p3 := HB.out.cell (j := 3) rfl
  have p4 := HB.out.cell (j := 4) rfl
  have p5 := HB.out.cell (j := 5) rfl
  go_enter Tryd.func37, Tryd.ntmps37
  go_wp2_with fail
  go_ret2
  exact ⟨rfl, HB.out.1⟩
theorem nodeOf_4 (fl : Bool) (n : Int) (s : ByteArray) (A1 A2 : Option Addr) (n1 c1 n2 c2 : Nat) (w : World) :
    Calls Tryd.prog 37 #[.agg #[.int .i64 4, .bool fl, .int .i64 n, .string s, .slice A1 n1 c1, .slice A2 n2 c2]] w fun e w' => e = .returned (.tuple #[.iface 86 (.agg #[.string s]), .bool true]) ∧ Below w.heap.size w w' := by
  have HB := Lib.hid (Box.new 30 w [.int .i64 4, .bool fl, .int .i64 n, .string s, .slice A1 n1 c1, .slice A2 n2 c2])
  have p0 := HB.out.cell (j := 0) rfl
  have p1 := HB.out.cell (j := 1) rfl
  have p2 := HB.out.cell (j := 2) rfl
  have p3 := HB.out.cell (j := 3) rfl
  have p4 := HB.out.cell (j := 4) rfl
  have p5 := HB.out.cell (j := 5) rfl
  go_enter Tryd.func37, Tryd.ntmps37
  go_wp2_with fail
  go_ret2
  exact ⟨rfl, HB.out.1⟩
theorem nodeOf_5 (fl : Bool) (n : Int) (s : ByteArray) (A1 A2 : Option Addr) (n1 c1 n2 c2 : Nat) (w : World) :
    Calls Tryd.prog 37 #[.agg #[.int .i64 5, .bool fl, .int .i64 n, .string s, .slice A1 n1 c1, .slice A2 n2 c2]] w fun e w' => e = .returned (.tuple #[.iface 88 (.agg #[.slice A2 n2 c2]), .bool true]) ∧ Below w.heap.size w w' := by
  have HB := Lib.hid (Box.new 30 w [.int .i64 5, .bool fl, .int .i64 n, .string s, .slice A1 n1 c1, .slice A2 n2 c2])
  have p0 := HB.out.cell (j := 0) rfl
  have p1 := HB.out.cell (j := 1) rfl
  have p2 := HB.out.cell (j := 2) rfl
  have p3 := HB.out.cell (j := 3) rfl
  have p4 := HB.out.cell (j := 4) rfl
  have p5 := HB.out.cell (j := 5) rfl
  go_enter Tryd.func37, Tryd.ntmps37
  go_wp2_with fail
  go_ret2
  exact ⟨rfl, HB.out.1⟩
theorem nodeOf_6 (fl : Bool) (n : Int) (s : ByteArray) (A1 A2 : Option Addr) (n1 c1 n2 c2 : Nat) (w : World) :
    Calls Tryd.prog 37 #[.agg #[.int .i64 6, .bool fl, .int .i64 n, .string s, .slice A1 n1 c1, .slice A2 n2 c2]] w fun e w' => e = .returned (.tuple #[.iface 90 (.agg #[.slice A1 n1 c1, .slice A2 n2 c2]), .bool true]) ∧ Below w.heap.size w w' := by
  have HB := Lib.hid (Box.new 30 w [.int .i64 6, .bool fl, .int .i64 n, .string s, .slice A1 n1 c1, .slice A2 n2 c2])
  have p0 := HB.out.cell (j := 0) rfl
  have p1 := HB.out.cell (j := 1) rfl
  have p2 := HB.out.cell (j := 2) rfl
  have p3 := HB.out.cell (j := 3) rfl
  have p4 := HB.out.cell (j := 4) rfl
  have p5 := HB.out.cell (j := 5) rfl
  go_enter Tryd.func37, Tryd.ntmps37
  go_wp2_with fail
  go_ret2
  exact ⟨rfl, HB.out.1⟩
theorem nodeOf_no (k : Int) (fl : Bool) (n : Int) (s : ByteArray) (A1 A2 : Option Addr) (n1 c1 n2 c2 : Nat) (w : World) (hk : ¬ (1 ≤ k ∧ k ≤ 6)) :
    Calls Tryd.prog 37 #[.agg #[.int .i64 k, .bool fl, .int .i64 n, .string s, .slice A1 n1 c1, .slice A2 n2 c2]] w fun e w' => e = .returned (.tuple #[.nilIface, .bool false]) ∧ Below w.heap.size w w' := by
  have HB := Lib.hid (Box.new 30 w [.int .i64 k, .bool fl, .int .i64 n, .string s, .slice A1 n1 c1, .slice A2 n2 c2])
  have p0 := HB.out.cell (j := 0) rfl
  have e1 : (k == 1) = false := beq_eq_false_iff_ne.2 (by omega)
  have e2 : (k == 2) = false := beq_eq_false_iff_ne.2 (by omega)
  have e3 : (k == 3) = false := beq_eq_false_iff_ne.2 (by omega)
  have e4 : (k == 4) = false := beq_eq_false_iff_ne.2 (by omega)
  have e5 : (k == 5) = false := beq_eq_false_iff_ne.2 (by omega)
  have e6 : (k == 6) = false := beq_eq_false_iff_ne.2 (by omega)
  clear hk
  go_enter Tryd.func37, Tryd.ntmps37
  go_wp2_with fail
  go_ret2
  exact ⟨rfl, HB.out.1⟩
end Go.Proofs.YtkgogbeknehphaaDoor.tree
