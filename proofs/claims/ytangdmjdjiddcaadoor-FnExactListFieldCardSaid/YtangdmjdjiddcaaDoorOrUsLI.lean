/- impl.orUsual[[]loop.example/g00968/impl.Tree]. Printed by gen/gen_ifields.py. -/
import Derived.Test.YtangdmjdjiddcaaDoorFaultOfI
import Derived.StillTailTactics
namespace Go.Proofs.YtangdmjdjiddcaaDoor.field
open Go.ChangeShapes Go.WideShapes Go.ChangeAt Go.RowKit tree
set_option linter.unusedVariables false
set_option linter.unusedSimpArgs false

set_option maxRecDepth 100000 in
set_option maxHeartbeats 16000000 in
theorem orUsual_list (rv us : Value) (o : Option Flt) (w : World) (hE : ET w) :
  Calls Tryd.prog 53 #[rv, errV o, us] w fun e w' => e = .returned (.tuple #[(usF (rv, o) us).1, fv (usF (rv, o) us).2]) ∧ Below w.heap.size w w' := by
  obtain ⟨w1, hw1⟩ : ∃ x, x = w.alloc (.cells #[.int .i64 0, .int .i64 0, .string ⟨#[]⟩] 31) := ⟨_, rfl⟩
  have hb1 : Below w.heap.size w w1 := by subst hw1; exact (Below.refl _ _).alloc (Nat.le_refl _) _
  have h11 : w1.heap[w.heap.size]? = some (.cells #[.int .i64 0, .int .i64 0, .string ⟨#[]⟩] 31 (0, 0)) := by subst hw1; exact heap_alloc_new w _
  have HO := Lib.hid (impl_faultOf o w1 (hE.below hb1))
  obtain ⟨S, hS⟩ : ∃ S, usF (rv, o) us = S := ⟨_, rfl⟩
  rw [hS]
  unfold usF at hS
  generalize errV o = ev at HO
  generalize flt o = g at HO hS
  obtain ⟨gc, gq⟩ := g
  have HS := Lib.hid hS
  clear hS
  have Hw1 := Lib.hid hw1
  have Hb1 := Lib.hid hb1
  have H11 := Lib.hid h11
  clear hw1 hb1 h11 hE
  go_enter Tryd.func53, Tryd.ntmps53
  go_wp2_with fail
  rw [← Hw1.out]
  refine HO.out.mono ?_
  rintro e w2 ⟨rfl, hb2⟩
  have h21 := heap_kept hb2 (heap_lt H11.out) H11.out
  obtain ⟨w3, hw3⟩ : ∃ x, x = w2.alloc (.cells #[.int .i64 gc, .int .i64 0, .string gq] 31) := ⟨_, rfl⟩
  have hb3 : Below w2.heap.size w2 w3 := by subst hw3; exact (Below.refl _ _).alloc (Nat.le_refl _) _
  have h31 := heap_kept hb3 (heap_lt h21) h21
  have h32 : w3.heap[w2.heap.size]? = some (.cells #[.int .i64 gc, .int .i64 0, .string gq] 31 (0, 0)) := by subst hw3; exact heap_alloc_new w2 _
  have p0 : w3.cell? ⟨w2.heap.size, 0, none⟩ = some (.int .i64 gc) := by rw [cell_of_row w3 _ 0 _ _ _ h32]; rfl
  have p1 : w3.cell? ⟨w2.heap.size, 1, none⟩ = some (.int .i64 0) := by rw [cell_of_row w3 _ 1 _ _ _ h32]; rfl
  have p2 : w3.cell? ⟨w2.heap.size, 2, none⟩ = some (.string gq) := by rw [cell_of_row w3 _ 2 _ _ _ h32]; rfl
  have H31 := Lib.hid h31
  have H32 := Lib.hid h32
  have Hb3 := Lib.hid (below_link (below_link Hb1.out hb2 Hb1.out.size) hb3 (below_link Hb1.out hb2 Hb1.out.size).size)
  have Hw3 := Lib.hid hw3
  rw [hw3] at p0 p1 p2
  clear HO hb2 h21 hb3 h31 h32 hw3 H11
  by_cases h12 : gc = 12
  · subst h12
    have hE : S = (us, good) := HS.out.symm.trans (if_pos rfl)
    subst hE
    clear HS
    go_wp2_with (first | (refine wpList_store_row rfl 31 _ _ rfl w2.heap.size #[.int .i64 12, .int .i64 0, .string gq] rfl rfl 31 _ (heap_alloc_new w2 _) sizeFault rfl (by simp [Value.oneCell']) ?_; rw [World.setRow_alloc_new]) | (rw [← Hw3.out]; refine wpList_store_row rfl 31 _ _ rfl w.heap.size #[.int .i64 0, .int .i64 0, .string ⟨#[]⟩] rfl rfl 31 _ H31.out sizeFault rfl (by simp [Value.oneCell']) ?_) | fail)
    refine bodyPost_ret (v := .tuple #[us, fv good]) ?_ rfl ⟨rfl, setRow_below Hb3.out (Nat.le_refl _) _⟩
    exact ret_vf rfl rfl rfl (setRow_at H31.out)
  · have hE : S = (rv, (gc, gq)) := HS.out.symm.trans (if_neg h12)
    subst hE
    clear HS
    have e12 : (gc == 12) = false := by simpa using h12
    go_wp2_with (first | (refine wpList_store_row rfl 31 _ _ rfl w2.heap.size #[.int .i64 gc, .int .i64 0, .string gq] rfl rfl 31 _ (heap_alloc_new w2 _) sizeFault rfl (by simp [Value.oneCell']) ?_; rw [World.setRow_alloc_new]) | fail)
    rw [← Hw3.out]
    clear p0 p1 p2
    have p0 : w3.cell? ⟨w2.heap.size, 0, none⟩ = some (.int .i64 gc) := by rw [cell_of_row w3 _ 0 _ _ _ H32.out]; rfl
    have p1 : w3.cell? ⟨w2.heap.size, 1, none⟩ = some (.int .i64 0) := by rw [cell_of_row w3 _ 1 _ _ _ H32.out]; rfl
    have p2 : w3.cell? ⟨w2.heap.size, 2, none⟩ = some (.string gq) := by rw [cell_of_row w3 _ 2 _ _ _ H32.out]; rfl
    go_still_tail 3, (by kernel_rfl)
    change wpList _ _ _ _ _ w3.drew
    obtain ⟨w4, hw4⟩ : ∃ x, x = w3.drew := ⟨_, rfl⟩
    have hb4 : Below w3.heap.size w3 w4 := by rw [hw4]; exact (Below.refl _ _).drew
    rw [← hw4]
    have H41 := Lib.hid (heap_kept hb4 (heap_lt H31.out) H31.out)
    have Hb4 := Lib.hid (below_link Hb3.out hb4 Hb3.out.size)
    clear hw4 hb4 p0 p1 p2
    go_wp2_with (first | (refine wpList_store_row rfl 31 _ _ rfl w.heap.size #[.int .i64 gc, .int .i64 0, .string gq] rfl rfl 31 _ H41.out sizeFault rfl (by simp [Value.oneCell']) ?_) | fail)
    refine bodyPost_ret (v := .tuple #[rv, fv (gc, gq)]) ?_ rfl ⟨rfl, setRow_below Hb4.out (Nat.le_refl _) _⟩
    exact ret_vf rfl rfl rfl (setRow_at H41.out)
end Go.Proofs.YtangdmjdjiddcaaDoor.field
