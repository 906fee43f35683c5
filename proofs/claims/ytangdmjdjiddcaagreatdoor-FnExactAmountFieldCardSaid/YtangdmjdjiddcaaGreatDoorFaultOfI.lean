/- impl.faultOf. Printed by gen/gen_ifields.py. -/
import Derived.Test.YtangdmjdjiddcaaGreatDoorAsI
namespace Go.Proofs.YtangdmjdjiddcaaGreatDoor.field
open Go.ChangeShapes Go.WideShapes Go.ChangeAt Go.RowKit tree
set_option linter.unusedVariables false
set_option linter.unusedSimpArgs false

theorem impl_faultOf_nil (w : World) : Calls Tryz.prog 23 #[.nilIface] w fun e w' => e = .returned (fv good) ∧ Below w.heap.size w w' := by
  obtain ⟨w0, hw0⟩ : ∃ x, x = w.alloc (.cells #[.int .i64 0, .int .i64 0, .string ⟨#[]⟩] 31) := ⟨_, rfl⟩
  obtain ⟨w1, hw1⟩ : ∃ x, x = w0.alloc (.cells #[.int .i64 0, .int .i64 0, .string ⟨#[]⟩] 80) := ⟨_, rfl⟩
  have hs0 : w0.heap.size = w.heap.size + 1 := by rw [hw0]; simp
  have hb1 : Below w.heap.size w w1 := by subst hw1; subst hw0; exact ((Below.refl _ _).alloc (Nat.le_refl _) _).alloc (by simp) _
  have h11 : w1.heap[w.heap.size]? = some (.cells #[.int .i64 0, .int .i64 0, .string ⟨#[]⟩] 31 (0, 0)) := by subst hw1; rw [Below.heap_alloc _ _ _ (by omega)]; subst hw0; exact heap_alloc_new w _
  have HA := Lib.hid (as_nil (.iface 82 (.pointer (some ⟨w.heap.size + 1, 0, none⟩))) w1)
  have Hw0 := Lib.hid hw0
  have Hw1 := Lib.hid hw1
  have Hb1 := Lib.hid hb1
  have H11 := Lib.hid h11
  clear hw0 hw1 hb1 h11
  go_enter Tryz.func23, Tryz.ntmps23
  go_wp2_with fail
  rw [← Hw0.out, ← Hw1.out]
  refine HA.out.mono ?_
  rintro e w2 ⟨rfl, rfl⟩
  go_wp2_with (first | (refine wpList_store_row rfl 31 _ _ rfl w.heap.size #[.int .i64 0, .int .i64 0, .string ⟨#[]⟩] rfl rfl 31 _ H11.out sizeFault rfl (by simp [Value.oneCell']) ?_) | fail)
  refine bodyPost_ret (v := fv good) ?_ rfl ⟨rfl, setRow_below Hb1.out (Nat.le_refl _) _⟩
  exact results_cell_row rfl _ _ w.heap.size _ _ (0, 0) _ rfl (setRow_at H11.out) Tryz.underlying31 rfl sizeFault
set_option maxRecDepth 100000 in
set_option maxHeartbeats 16000000 in
theorem impl_faultOf_some (c : Int) (q : ByteArray) (w : World) (hE : ET w) : Calls Tryz.prog 23 #[errV (some (c, q))] w fun e w' => e = .returned (fv (c, q)) ∧ Below w.heap.size w w' := by
  obtain ⟨w0, hw0⟩ : ∃ x, x = w.alloc (.cells #[.int .i64 0, .int .i64 0, .string ⟨#[]⟩] 31) := ⟨_, rfl⟩
  obtain ⟨w1, hw1⟩ : ∃ x, x = w0.alloc (.cells #[.int .i64 0, .int .i64 0, .string ⟨#[]⟩] 80) := ⟨_, rfl⟩
  have hs0 : w0.heap.size = w.heap.size + 1 := by rw [hw0]; simp
  have hb0 : Below w.heap.size w w0 := by subst hw0; exact (Below.refl _ _).alloc (Nat.le_refl _) _
  have h01 : w0.heap[w.heap.size]? = some (.cells #[.int .i64 0, .int .i64 0, .string ⟨#[]⟩] 31 (0, 0)) := by subst hw0; exact heap_alloc_new w _
  have HA := Lib.hid (as_hit c q w0 (hE.below hb0))
  rw [← hw1, hs0] at HA
  have Hw0 := Lib.hid hw0
  have Hw1 := Lib.hid hw1
  have Hb0 := Lib.hid hb0
  have H01 := Lib.hid h01
  have Hs0 := Lib.hid hs0
  clear hw0 hw1 hb0 h01 hs0 hE
  unfold errV
  go_enter Tryz.func23, Tryz.ntmps23
  go_wp2_with fail
  rw [← Hw0.out, ← Hw1.out]
  refine HA.out.mono ?_
  rintro e w2 ⟨rfl, h2, hb2⟩
  have h21 := heap_kept hb2 (by have := Hs0.out; omega) H01.out
  have H21 := Lib.hid h21
  have H2 := Lib.hid h2
  have Hb2 := Lib.hid (Hb0.out.trans (hb2.mono (by have := Hs0.out; omega)))
  have p0 : w2.cell? ⟨w.heap.size + 1, 0, none⟩ = some (.int .i64 c) := by rw [cell_of_row w2 _ 0 _ _ _ h2]; rfl
  have p1 : w2.cell? ⟨w.heap.size + 1, 1, none⟩ = some (.int .i64 0) := by rw [cell_of_row w2 _ 1 _ _ _ h2]; rfl
  have p2 : w2.cell? ⟨w.heap.size + 1, 2, none⟩ = some (.string q) := by rw [cell_of_row w2 _ 2 _ _ _ h2]; rfl
  clear HA h21 h2 hb2 Hs0
  go_wp2_with (first | (refine wpList_store_row rfl 31 _ _ rfl w.heap.size #[.int .i64 c, .int .i64 0, .string q] rfl rfl 31 _ H21.out sizeFault rfl (by simp [Value.oneCell']) ?_) | fail)
  refine bodyPost_ret (v := fv (c, q)) ?_ rfl ⟨rfl, setRow_below Hb2.out (Nat.le_refl _) _⟩
  exact results_cell_row rfl _ _ w.heap.size _ _ (0, 0) _ rfl (setRow_at H21.out) Tryz.underlying31 rfl sizeFault
theorem impl_faultOf (o : Option Flt) (w : World) (hE : ET w) : Calls Tryz.prog 23 #[errV o] w fun e w' => e = .returned (fv (flt o)) ∧ Below w.heap.size w w' := by
  cases o with
  | none => exact impl_faultOf_nil w
  | some x => exact impl_faultOf_some x.1 x.2 w hE
end Go.Proofs.YtangdmjdjiddcaaGreatDoor.field
