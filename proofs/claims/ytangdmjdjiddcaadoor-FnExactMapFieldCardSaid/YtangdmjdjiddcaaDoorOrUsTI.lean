/- impl.orUsual[impl.Tree]. Printed by gen/gen_ifields.py. -/
import Derived.Test.YtangdmjdjiddcaaDoorFaultOfI
import Derived.Test.YtangdmjdjiddcaaDoorTwoBox
import Derived.StillTailTactics
import Derived.Deep.RegionHeld3
namespace Go.Proofs.YtangdmjdjiddcaaDoor.field
open Go.ChangeShapes Go.WideShapes Go.ChangeAt Go.RowKit tree
set_option linter.unusedVariables false
set_option linter.unusedSimpArgs false

theorem step_store_rowA {P : Program} {ops : Array Oper} {o : Oper} {a : Act} {w : World} {K : Act → World → Prop} {Q : Exit → Act → World → Prop} {E : Prop} (hg : o.guard = none) (ty : TypeId) (x y : Operand) (ho : o.op = .store ty x y)
    (g : Nat) (cells : Array Value) (hx : a.eval x = .pointer (some ⟨g, 0, none⟩)) (hy : a.eval y = .agg cells) (t : TypeId) (old : Array Value) (hgd : w.heap[g]? = some (.cells old t (0, 0))) (hi : (P.info? ty).map (·.size) = some cells.size)
    (hold : old.size = cells.size) (h1 : cells.all (·.oneCell') = true) (h : K (a.put o.dst undef) (w.setRow g cells)) : if Region.wanted o (yielded ops a.tmps) = true then Oper.wp P o a w K Q else E := by
  have hw : Region.wanted o (yielded ops a.tmps) = true := by simp [Region.wanted, hg]
  rw [if_pos hw]
  exact wp_store_row ty x y ho g cells hx hy t old hgd hi hold h1 h
set_option maxRecDepth 100000 in
set_option maxHeartbeats 16000000 in
theorem orUsual_tree (v u : List Value) (hv : v.length = 6) (hu : u.length = 6) (hov : v.toArray.all (·.oneCell') = true) (hou : u.toArray.all (·.oneCell') = true) (o : Option Flt) (w : World) (hE : ET w) :
  Calls Tryd.prog 59 #[.agg v.toArray, errV o, .agg u.toArray] w fun e w' => e = .returned (.tuple #[.agg (usF (v.toArray, o) u.toArray).1, fv (usF (v.toArray, o) u.toArray).2]) ∧ Below w.heap.size w w' := by
  obtain ⟨x0, x1, x2, x3, x4, x5, rfl⟩ := six_of hv
  obtain ⟨y0, y1, y2, y3, y4, y5, rfl⟩ := six_of hu
  obtain ⟨wa, hwa⟩ : ∃ x, x = w.alloc (.cells #[x0, x1, x2, x3, x4, x5] 35) := ⟨_, rfl⟩
  obtain ⟨wb, hwb⟩ : ∃ x, x = wa.alloc (.cells #[y0, y1, y2, y3, y4, y5] 35) := ⟨_, rfl⟩
  obtain ⟨wc, hwc⟩ : ∃ x, x = wb.alloc (.cells #[.int .i64 0, .bool false, .int .i64 0, .string ⟨#[]⟩, .slice none 0 0, .slice none 0 0] 35) := ⟨_, rfl⟩
  obtain ⟨w1, hw1⟩ : ∃ x, x = wc.alloc (.cells #[.int .i64 0, .int .i64 0, .string ⟨#[]⟩] 31) := ⟨_, rfl⟩
  have sa : wa.heap.size = w.heap.size + 1 := by rw [hwa]; simp
  have sb : wb.heap.size = w.heap.size + 2 := by rw [hwb]; simp [sa]
  have sc : wc.heap.size = w.heap.size + 3 := by rw [hwc]; simp [sb]
  have ba : Below w.heap.size w wa := by subst hwa; exact (Below.refl _ _).alloc (Nat.le_refl _) _
  have bb : Below w.heap.size w wb := by subst hwb; exact ba.alloc (by omega) _
  have bc : Below w.heap.size w wc := by subst hwc; exact bb.alloc (by omega) _
  have hb1 : Below w.heap.size w w1 := by subst hw1; exact bc.alloc (by omega) _
  have h10 : w1.heap[w.heap.size]? = some (.cells #[x0, x1, x2, x3, x4, x5] 35 (0, 0)) := by subst hw1; rw [Below.heap_alloc _ _ _ (by omega)]; subst hwc; rw [Below.heap_alloc _ _ _ (by omega)]; subst hwb; rw [Below.heap_alloc _ _ _ (by omega)]; subst hwa; exact heap_alloc_new w _
  have h11 : w1.heap[w.heap.size + 1]? = some (.cells #[y0, y1, y2, y3, y4, y5] 35 (0, 0)) := by subst hw1; rw [Below.heap_alloc _ _ _ (by omega)]; subst hwc; rw [Below.heap_alloc _ _ _ (by omega)]; subst hwb; rw [← sa]; exact heap_alloc_new wa _
  have h12 : w1.heap[w.heap.size + 2]? = some (.cells #[.int .i64 0, .bool false, .int .i64 0, .string ⟨#[]⟩, .slice none 0 0, .slice none 0 0] 35 (0, 0)) := by subst hw1; rw [Below.heap_alloc _ _ _ (by omega)]; subst hwc; rw [← sb]; exact heap_alloc_new wb _
  have h13 : w1.heap[w.heap.size + 3]? = some (.cells #[.int .i64 0, .int .i64 0, .string ⟨#[]⟩] 31 (0, 0)) := by subst hw1; rw [← sc]; exact heap_alloc_new wc _
  have HO := Lib.hid (impl_faultOf o w1 (hE.below hb1))
  obtain ⟨S, hS⟩ : ∃ S, usF (#[x0, x1, x2, x3, x4, x5], o) #[y0, y1, y2, y3, y4, y5] = S := ⟨_, rfl⟩
  rw [hS]
  unfold usF at hS
  generalize errV o = ev at HO
  generalize flt o = g at HO hS
  obtain ⟨gc, gq⟩ := g
  have HS := Lib.hid hS
  have Hwa := Lib.hid hwa
  have Hwb := Lib.hid hwb
  have Hwc := Lib.hid hwc
  have Hw1 := Lib.hid hw1
  have Hb1 := Lib.hid hb1
  have H10 := Lib.hid h10
  have H11 := Lib.hid h11
  have H12 := Lib.hid h12
  have H13 := Lib.hid h13
  clear hS hwa hwb hwc hw1 hb1 h10 h11 h12 h13 hE sa sb sc ba bb bc hv hu
  go_enter Tryd.func59, Tryd.ntmps59
  go_wp2_with fail
  rw [← Hwa.out, ← Hwb.out, ← Hwc.out, ← Hw1.out]
  refine HO.out.mono ?_
  rintro e w2 ⟨rfl, hb2⟩
  obtain ⟨w3, hw3⟩ : ∃ x, x = w2.alloc (.cells #[.int .i64 gc, .int .i64 0, .string gq] 31) := ⟨_, rfl⟩
  have hb3 : Below w2.heap.size w2 w3 := by subst hw3; exact (Below.refl _ _).alloc (Nat.le_refl _) _
  have hb13 : Below w1.heap.size w1 w3 := below_link hb2 hb3 hb2.size
  have H30 := Lib.hid (heap_kept hb13 (heap_lt H10.out) H10.out)
  have H31 := Lib.hid (heap_kept hb13 (heap_lt H11.out) H11.out)
  have H32 := Lib.hid (heap_kept hb13 (heap_lt H12.out) H12.out)
  have H33 := Lib.hid (heap_kept hb13 (heap_lt H13.out) H13.out)
  have h34 : w3.heap[w2.heap.size]? = some (.cells #[.int .i64 gc, .int .i64 0, .string gq] 31 (0, 0)) := by subst hw3; exact heap_alloc_new w2 _
  have H34 := Lib.hid h34
  have p0 : w3.cell? ⟨w2.heap.size, 0, none⟩ = some (.int .i64 gc) := by rw [cell_of_row w3 _ 0 _ _ _ h34]; rfl
  have Hb3 := Lib.hid (below_link Hb1.out hb13 Hb1.out.size)
  have Hlt := Lib.hid (show w.heap.size + 3 < w2.heap.size by have h1 := heap_lt H13.out; have h2 := hb2.size; omega)
  have Hw3 := Lib.hid hw3
  rw [hw3] at p0
  clear HO hb2 hb3 hb13 h34 hw3 H10 H11 H12 H13
  by_cases e12 : gc = 12
  · subst e12
    have hE : S = (#[y0, y1, y2, y3, y4, y5], good) := HS.out.symm.trans (if_pos rfl)
    subst hE
    clear HS
    obtain ⟨q0, q1, q2, q3, q4, q5⟩ := Row6.of H31.out
    rw [Hw3.out] at q0 q1 q2 q3 q4 q5
    go_wp2_with (first | (refine wpList_store_row rfl 31 _ _ rfl w2.heap.size #[.int .i64 12, .int .i64 0, .string gq] rfl rfl 31 _ (heap_alloc_new w2 _) sizeFault rfl (by simp [Value.oneCell']) ?_; rw [World.setRow_alloc_new]) | (rw [← Hw3.out]; refine wpList_store_row rfl 35 _ _ rfl (w.heap.size + 2) #[y0, y1, y2, y3, y4, y5] rfl rfl 35 _ H32.out tree_size' rfl hou ?_) | (refine wpList_store_row rfl 31 _ _ rfl (w.heap.size + 3) #[.int .i64 0, .int .i64 0, .string ⟨#[]⟩] rfl rfl 31 _ ((setRow_other _ _ _ _ (by omega)).trans H33.out) sizeFault rfl (by simp [Value.oneCell']) ?_) | fail)
    refine bodyPost_ret (v := .tuple #[.agg #[y0, y1, y2, y3, y4, y5], fv good]) ?_ rfl ⟨rfl, setRow_below (setRow_below Hb3.out (by omega) _) (by omega) _⟩
    exact ret_cf rfl rfl ((setRow_other _ _ _ _ (by omega)).trans (setRow_at H32.out)) rfl rfl (setRow_at ((setRow_other _ _ _ _ (by omega)).trans H33.out))
  · have hE : S = (#[x0, x1, x2, x3, x4, x5], (gc, gq)) := HS.out.symm.trans (if_neg e12)
    subst hE
    clear HS
    have f12 : (gc == 12) = false := by simpa using e12
    go_wp2_with (first | (refine wpList_store_row rfl 31 _ _ rfl w2.heap.size #[.int .i64 gc, .int .i64 0, .string gq] rfl rfl 31 _ (heap_alloc_new w2 _) sizeFault rfl (by simp [Value.oneCell']) ?_; rw [World.setRow_alloc_new]) | fail)
    rw [← Hw3.out]
    clear p0
    have p0 : w3.cell? ⟨w2.heap.size, 0, none⟩ = some (.int .i64 gc) := by rw [cell_of_row w3 _ 0 _ _ _ H34.out]; rfl
    have p1 : w3.cell? ⟨w2.heap.size, 1, none⟩ = some (.int .i64 0) := by rw [cell_of_row w3 _ 1 _ _ _ H34.out]; rfl
    have p2 : w3.cell? ⟨w2.heap.size, 2, none⟩ = some (.string gq) := by rw [cell_of_row w3 _ 2 _ _ _ H34.out]; rfl
    obtain ⟨q0, q1, q2, q3, q4, q5⟩ := Row6.of H30.out
    refine wp_region_held_drew (S := (fun w' => (w'.cell? ⟨w.heap.size, 0, none⟩ = some x0 ∧ w'.cell? ⟨w.heap.size, 1, none⟩ = some x1 ∧ w'.cell? ⟨w.heap.size, 2, none⟩ = some x2 ∧ w'.cell? ⟨w.heap.size, 3, none⟩ = some x3 ∧ w'.cell? ⟨w.heap.size, 4, none⟩ = some x4 ∧ w'.cell? ⟨w.heap.size, 5, none⟩ = some x5) ∧ w'.cell? ⟨w2.heap.size, 0, none⟩ = some (.int .i64 gc) ∧ w'.cell? ⟨w2.heap.size, 1, none⟩ = some (.int .i64 0) ∧ w'.cell? ⟨w2.heap.size, 2, none⟩ = some (.string gq))) (by kernel_rfl) ?_ (fun hHeld => ?_)
    · exact ⟨⟨q0, q1, q2, q3, q4, q5⟩, p0, p1, p2⟩
    refine wpAnyH_take (i := 0) (v := ?_) rfl (by kernel_rfl) (by kernel_rfl) (by kernel_rfl) (fun _ _ _ h => h) (Or.inl ⟨by rfl, ?_⟩) (by assumption) ?_
    rotate_left
    · intro w' hSw
      try dsimp only at hSw
      go_simp
      try with_reducible rfl
    try simp only [Act.put, List.setIfInBounds_toArray, List.set_cons_zero, List.set_cons_succ, List.getElem_toArray, List.getElem_cons_zero, List.getElem_cons_succ]
    refine wpAnyH_take (i := 1) (v := ?_) rfl (by kernel_rfl) (by kernel_rfl) (by kernel_rfl) (fun _ _ _ h => h) (Or.inl ⟨by rfl, ?_⟩) (by assumption) ?_
    rotate_left
    · intro w' hSw
      try dsimp only at hSw
      go_simp
      try with_reducible rfl
    try simp only [Act.put, List.setIfInBounds_toArray, List.set_cons_zero, List.set_cons_succ, List.getElem_toArray, List.getElem_cons_zero, List.getElem_cons_succ]
    refine wpAnyH_ready (rs := [2]) (by kernel_rfl) (by simp) ?_
    refine AllReadyH.cons rfl (fun K hK => ?_) AllReadyH.nil
    refine step_store_rowA rfl 35 _ _ rfl (w.heap.size + 2) #[x0, x1, x2, x3, x4, x5] rfl rfl 35 _ H32.out tree_size' rfl hov ?_
    have e0 : (w3.drew.setRow (w.heap.size + 2) #[x0, x1, x2, x3, x4, x5]).heap[w.heap.size]? = w3.drew.heap[w.heap.size]? := setRow_other _ _ _ _ (by omega)
    have e2 : (w3.drew.setRow (w.heap.size + 2) #[x0, x1, x2, x3, x4, x5]).heap[w2.heap.size]? = w3.drew.heap[w2.heap.size]? := setRow_other _ _ _ _ (by have := Hlt.out; omega)
    have Hq := Lib.hid (Row6.of (e0.trans H30.out))
    have Hp := Lib.hid (e2.trans H34.out)
    refine hK.out _ _ ?_ (fun hHeld => ?_)
    · obtain ⟨q0, q1, q2, q3, q4, q5⟩ := Hq.out
      exact ⟨⟨q0, q1, q2, q3, q4, q5⟩, by rw [cell_of_row _ _ 0 _ _ _ Hp.out]; rfl, by rw [cell_of_row _ _ 1 _ _ _ Hp.out]; rfl, by rw [cell_of_row _ _ 2 _ _ _ Hp.out]; rfl⟩
    clear hK K q0 q1 q2 q3 q4 q5 p0 p1 p2 e0 e2
    try simp only [Act.put, List.setIfInBounds_toArray, List.set_cons_zero, List.set_cons_succ, List.getElem_toArray, List.getElem_cons_zero, List.getElem_cons_succ]
    refine wpAnyH_ready (rs := [3]) (by kernel_rfl) (by simp) ?_
    refine AllReadyH.cons rfl (fun K hK => ?_) AllReadyH.nil
    refine step_store_rowA rfl 31 _ _ rfl (w.heap.size + 3) #[.int .i64 gc, .int .i64 0, .string gq] rfl rfl 31 _ ((setRow_other _ _ _ _ (by omega)).trans H33.out) sizeFault rfl (by simp [Value.oneCell']) ?_
    have e0 : ((w3.drew.setRow (w.heap.size + 2) #[x0, x1, x2, x3, x4, x5]).setRow (w.heap.size + 3) #[.int .i64 gc, .int .i64 0, .string gq]).heap[w.heap.size]? = w3.drew.heap[w.heap.size]? := (setRow_other _ _ _ _ (by omega)).trans (setRow_other _ _ _ _ (by omega))
    have e2 : ((w3.drew.setRow (w.heap.size + 2) #[x0, x1, x2, x3, x4, x5]).setRow (w.heap.size + 3) #[.int .i64 gc, .int .i64 0, .string gq]).heap[w2.heap.size]? = w3.drew.heap[w2.heap.size]? := (setRow_other _ _ _ _ (by have := Hlt.out; omega)).trans (setRow_other _ _ _ _ (by have := Hlt.out; omega))
    have Hq2 := Lib.hid (Row6.of (e0.trans H30.out))
    have Hp2 := Lib.hid (e2.trans H34.out)
    refine hK.out _ _ ?_ (fun hHeld => ?_)
    · obtain ⟨q0, q1, q2, q3, q4, q5⟩ := Hq2.out
      exact ⟨⟨q0, q1, q2, q3, q4, q5⟩, by rw [cell_of_row _ _ 0 _ _ _ Hp2.out]; rfl, by rw [cell_of_row _ _ 1 _ _ _ Hp2.out]; rfl, by rw [cell_of_row _ _ 2 _ _ _ Hp2.out]; rfl⟩
    clear hK K e0 e2
    try simp only [Act.put, List.setIfInBounds_toArray, List.set_cons_zero, List.set_cons_succ, List.getElem_toArray, List.getElem_cons_zero, List.getElem_cons_succ]
    refine wpAnyH_done (by kernel_rfl) ?_ _
    go_wp2_with fail
    refine bodyPost_ret (v := .tuple #[.agg #[x0, x1, x2, x3, x4, x5], fv (gc, gq)]) ?_ rfl ⟨rfl, setRow_below (setRow_below (below_link Hb3.out (Below.refl _ _).drew Hb3.out.size) (by omega) _) (by omega) _⟩
    exact ret_cf rfl rfl ((setRow_other _ _ _ _ (by omega)).trans (setRow_at H32.out)) rfl rfl (setRow_at ((setRow_other _ _ _ _ (by omega)).trans H33.out))
end Go.Proofs.YtangdmjdjiddcaaDoor.field
