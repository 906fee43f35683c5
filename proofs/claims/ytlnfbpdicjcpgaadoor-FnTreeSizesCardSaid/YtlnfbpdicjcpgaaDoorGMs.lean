/- Merged: TrSizeI TrDepthI TrLeavesI. -/
import Derived.Test.YtlnfbpdicjcpgaaDoorGIter
namespace Go.Proofs.YtlnfbpdicjcpgaaDoor.tree
open Go.ChangeShapes Go.WideShapes Go.ChangeAt Go.RowKit Go.Shelf
set_option linter.unusedVariables false
attribute [local go_sem] Oper.semAt_some

set_option maxRecDepth 100000 in
set_option maxHeartbeats 4000000 in
theorem impl_size (f : Nat) (t : T) (vs : List Value) (w : World) (h : LiesS w f vs (row t)) (hsz : size t ≤ 1099511627776) :
    Calls Tryd.prog 22 #[.agg vs.toArray] w fun e w' => e = .returned (.int .i64 (size t : Nat)) ∧ Below w.heap.size w w' := by
  refine (callsIn_wide (n := 5)).1 ?_
  obtain ⟨k, fl, m, s, ks, kids⟩ := t
  obtain ⟨A1, c1, A2, c2, rfl, _, _, _, _, _, _, _, _, _, _⟩ := open_tree h
  obtain ⟨t, ht⟩ : ∃ t, t = T.mk k fl m s ks kids := ⟨_, rfl⟩
  rw [← ht] at h hsz ⊢
  obtain ⟨w3, hw3⟩ : ∃ w3, w3 = ((w.alloc (.cells #[.int .i64 k, .bool fl, .int .i64 m, .string s, .slice A1 ks.length c1, .slice A2 kids.length c2] 29)).alloc (.cells #[.int .i64 0] 3)).alloc (.cells #[.int .i64 k, .bool fl, .int .i64 m, .string s, .slice A1 ks.length c1, .slice A2 kids.length c2] 29) := ⟨_, rfl⟩
  have hs3 : w3.heap.size = w.heap.size + 3 := by rw [hw3]; simp
  have hb3 : Below w.heap.size w w3 := by rw [hw3]; exact (((Below.refl _ w).alloc (Nat.le_refl _) _).alloc (by simp) _).alloc (by simp; omega) _
  have hrow : w3.heap[w.heap.size + 1 + 1]? = some (.cells #[.int .i64 k, .bool fl, .int .i64 m, .string s, .slice A1 ks.length c1, .slice A2 kids.length c2] 29 (0, 0)) := by
    have h := heap_alloc_new ((w.alloc (.cells #[.int .i64 k, .bool fl, .int .i64 m, .string s, .slice A1 ks.length c1, .slice A2 kids.length c2] 29)).alloc (.cells #[.int .i64 0] 3)) (.cells #[.int .i64 k, .bool fl, .int .i64 m, .string s, .slice A1 ks.length c1, .slice A2 kids.length c2] 29)
    rw [World.size_alloc, World.size_alloc] at h
    rw [hw3]
    exact h
  have hbox : w3.heap[w.heap.size + 1]? = some (.cells #[.int .i64 0] 3 (0, 0)) := by
    have h := heap_alloc_new (w.alloc (.cells #[.int .i64 k, .bool fl, .int .i64 m, .string s, .slice A1 ks.length c1, .slice A2 kids.length c2] 29)) (.cells #[.int .i64 0] 3)
    rw [World.size_alloc] at h
    rw [hw3, Below.heap_alloc _ _ _ (by simp)]
    exact h
  have Hiter := Lib.hid (iter_tree (5 - 1) f t _ w w3 h hsz (w.heap.size + 1 + 1) hb3 (by omega) hrow)
  have hlen := pre_length t 1
  have Hsz := Lib.hid hsz
  have Hlen := Lib.hid hlen
  have Hb3 := Lib.hid hb3
  have Hbox := Lib.hid hbox
  have Hs3 := Lib.hid hs3
  have Hw3 := Lib.hid hw3
  have Hht := Lib.hid ht
  clear ht h hsz hlen hb3 hrow hbox hs3 hw3
  refine callsIn_of_wp_marks Tryd.func22 rfl trivial ?_ rfl
  simp only [Tryd.ntmps22, List.size_toArray, List.length_cons, List.length_nil, Nat.reduceAdd, Nat.reduceSub, Array.replicate_succ, Array.replicate_zero, List.push_toArray, List.append_toArray, List.nil_append, List.cons_append]
  gi_wp2_with (refine ⟨trivial, ?_⟩; gi_at_call 52; refine (callsIn_wide.2 (treesIn_call k fl m s _ _ _)).mono ?_; rintro e w' ⟨rfl, rfl⟩)
  rw [← Hw3.out]
  refine wpIn_range_iter rfl (enters_of Tryd.func70 (by kernel_rfl) rfl) Hiter.out (fun x args h => by obtain ⟨us, rfl, _⟩ := h; rfl) [w.heap.size + 1] (fun x hx => by simp at hx; have := Hs3.out; omega)
    (fun x hx => by have := Hs3.out; omega)
    (fun p W => W.heap[w.heap.size + 1]? = some (.cells #[.int .i64 (p.length : Nat)] 3 (0, 0)) ∧ Below w.heap.size w W) (fun _ _ => False)
    (fun p A B hi hb => ⟨(hb.block _ (by have := Hs3.out; omega)).trans hi.1, hi.2.trans (hb.mono (by have := Hs3.out; omega))⟩) (fun _ _ _ h _ => h) ⟨Hbox.out, Hb3.out⟩
    (fun args => { tmps := #[.agg #[.int .i64 k, .bool fl, .int .i64 m, .string s, .slice A1 ks.length c1, .slice A2 kids.length c2], .pointer (some ⟨w.heap.size, 0, none⟩), .int .i64 0, .pointer (some ⟨w.heap.size + 1, 0, none⟩), .agg #[.int .i64 k, .bool fl, .int .i64 m, .string s, .slice A1 ks.length c1, .slice A2 kids.length c2], .func (.func 70) #[] #[.pointer (some ⟨w.heap.size + 1 + 1, 0, none⟩)], args.getD 0 undef, args.getD 1 undef, undef, undef, undef], defers := [] }) ?assign ?body ?done ?stop
  case assign =>
    rintro l x _ W K ⟨us, rfl, _⟩ hK
    gi_wp2
    simpa using hK
  case body =>
    rintro l p x _ W ⟨hrow, hbel⟩ hpre ⟨us, rfl, hx⟩ hW
    have hc : W.cell? ⟨w.heap.size + 1, 0, none⟩ = some (.int .i64 (p.length : Nat)) := by rw [cell_of_row W _ 0 _ _ _ hrow]; rfl
    have hf := frozen_of_row W (w.heap.size + 1) 0 _ _ hrow
    have hp : (p.length : Int) + 1 ≤ 9223372036854775807 := by
      have h1 := hpre.length_le
      have h2 := Hlen.out
      have h3 := Hsz.out
      simp at h1
      omega
    have Hrow := Lib.hid hrow
    have Hbel := Lib.hid hbel
    clear hrow hbel hpre hx
    gi_wp2
    have e1 : (((p ++ [x]).length : Nat) : Int) = (p.length : Int) + 1 := by simp
    refine ⟨⟨rfl, rfl, rfl, by simp, fun b _ hb => Below.heap_setCell _ _ _ _ (fun e => hb (by rw [e]; exact List.mem_cons_self))⟩, ?_, Hbel.out.setCell (p := ⟨w.heap.size + 1, 0, none⟩) (by simp) _⟩
    rw [heap_setCell_same W _ 0 _ _ _ Hrow.out, e1]
    rfl
  case done =>
    rintro D W hD ⟨hrow, hbel⟩ hK
    have hc : W.cell? ⟨w.heap.size + 1, 0, none⟩ = some (.int .i64 ((pre 1 t).length : Nat)) := by rw [cell_of_row W _ 0 _ _ _ hrow]; rfl
    rw [Hlen.out] at hc
    have HK := Lib.hid hK
    have Hbel := Lib.hid hbel
    clear hK hbel hrow
    gi_wp2
    refine ⟨by simp, .inl ⟨_, _, rfl, run_takeDeferred HK.out, ?_⟩⟩
    exact ⟨_, results_tmp rfl _ _ _, rfl, Hbel.out.trans (below_put _ _ (by have := Hs3.out; omega))⟩
  case stop =>
    rintro D p W _ _ h _
    exact h.elim
end Go.Proofs.YtlnfbpdicjcpgaaDoor.tree
namespace Go.Proofs.YtlnfbpdicjcpgaaDoor.tree
open Go.ChangeShapes Go.WideShapes Go.ChangeAt Go.RowKit Go.Shelf
set_option linter.unusedVariables false
attribute [local go_sem] Oper.semAt_some

set_option maxRecDepth 100000 in
set_option maxHeartbeats 4000000 in
theorem impl_depth (f : Nat) (t : T) (vs : List Value) (w : World) (h : LiesS w f vs (row t)) (hsz : size t ≤ 1099511627776) :
    Calls Tryd.prog 24 #[.agg vs.toArray] w fun e w' => e = .returned (.int .i64 (depth t : Nat)) ∧ Below w.heap.size w w' := by
  refine (callsIn_wide (n := 5)).1 ?_
  obtain ⟨k, fl, m, s, ks, kids⟩ := t
  obtain ⟨A1, c1, A2, c2, rfl, _, _, _, _, _, _, _, _, _, _⟩ := open_tree h
  obtain ⟨t, ht⟩ : ∃ t, t = T.mk k fl m s ks kids := ⟨_, rfl⟩
  rw [← ht] at h hsz ⊢
  obtain ⟨w3, hw3⟩ : ∃ w3, w3 = ((w.alloc (.cells #[.int .i64 k, .bool fl, .int .i64 m, .string s, .slice A1 ks.length c1, .slice A2 kids.length c2] 29)).alloc (.cells #[.int .i64 0] 3)).alloc (.cells #[.int .i64 k, .bool fl, .int .i64 m, .string s, .slice A1 ks.length c1, .slice A2 kids.length c2] 29) := ⟨_, rfl⟩
  have hs3 : w3.heap.size = w.heap.size + 3 := by rw [hw3]; simp
  have hb3 : Below w.heap.size w w3 := by rw [hw3]; exact (((Below.refl _ w).alloc (Nat.le_refl _) _).alloc (by simp) _).alloc (by simp; omega) _
  have hrow : w3.heap[w.heap.size + 1 + 1]? = some (.cells #[.int .i64 k, .bool fl, .int .i64 m, .string s, .slice A1 ks.length c1, .slice A2 kids.length c2] 29 (0, 0)) := by
    have h := heap_alloc_new ((w.alloc (.cells #[.int .i64 k, .bool fl, .int .i64 m, .string s, .slice A1 ks.length c1, .slice A2 kids.length c2] 29)).alloc (.cells #[.int .i64 0] 3)) (.cells #[.int .i64 k, .bool fl, .int .i64 m, .string s, .slice A1 ks.length c1, .slice A2 kids.length c2] 29)
    rw [World.size_alloc, World.size_alloc] at h
    rw [hw3]
    exact h
  have hbox : w3.heap[w.heap.size + 1]? = some (.cells #[.int .i64 0] 3 (0, 0)) := by
    have h := heap_alloc_new (w.alloc (.cells #[.int .i64 k, .bool fl, .int .i64 m, .string s, .slice A1 ks.length c1, .slice A2 kids.length c2] 29)) (.cells #[.int .i64 0] 3)
    rw [World.size_alloc] at h
    rw [hw3, Below.heap_alloc _ _ _ (by simp)]
    exact h
  have Hiter := Lib.hid (iter_tree (5 - 1) f t _ w w3 h hsz (w.heap.size + 1 + 1) hb3 (by omega) hrow)
  have hlen : maxD (pre 1 t) = depth t := by have h := maxD_pre t 0; rw [Nat.zero_add, Nat.zero_add] at h; exact h
  have Hsz := Lib.hid hsz
  have Hlen := Lib.hid hlen
  have Hb3 := Lib.hid hb3
  have Hbox := Lib.hid hbox
  have Hs3 := Lib.hid hs3
  have Hw3 := Lib.hid hw3
  have Hht := Lib.hid ht
  clear ht h hsz hlen hb3 hrow hbox hs3 hw3
  refine callsIn_of_wp_marks Tryd.func24 rfl trivial ?_ rfl
  simp only [Tryd.ntmps24, List.size_toArray, List.length_cons, List.length_nil, Nat.reduceAdd, Nat.reduceSub, Array.replicate_succ, Array.replicate_zero, List.push_toArray, List.append_toArray, List.nil_append, List.cons_append]
  gi_wp2_with (refine ⟨trivial, ?_⟩; gi_at_call 52; refine (callsIn_wide.2 (treesIn_call k fl m s _ _ _)).mono ?_; rintro e w' ⟨rfl, rfl⟩)
  rw [← Hw3.out]
  refine wpIn_range_iter rfl (enters_of Tryd.func70 (by kernel_rfl) rfl) Hiter.out (fun x args h => by obtain ⟨us, rfl, _⟩ := h; rfl) [w.heap.size + 1] (fun x hx => by simp at hx; have := Hs3.out; omega)
    (fun x hx => by have := Hs3.out; omega)
    (fun p W => W.heap[w.heap.size + 1]? = some (.cells #[.int .i64 (maxD p : Nat)] 3 (0, 0)) ∧ Below w.heap.size w W) (fun _ _ => False)
    (fun p A B hi hb => ⟨(hb.block _ (by have := Hs3.out; omega)).trans hi.1, hi.2.trans (hb.mono (by have := Hs3.out; omega))⟩) (fun _ _ _ h _ => h) ⟨Hbox.out, Hb3.out⟩
    (fun args => { tmps := #[.agg #[.int .i64 k, .bool fl, .int .i64 m, .string s, .slice A1 ks.length c1, .slice A2 kids.length c2], .pointer (some ⟨w.heap.size, 0, none⟩), .int .i64 0, .pointer (some ⟨w.heap.size + 1, 0, none⟩), undef, args.getD 1 undef, .agg #[.int .i64 k, .bool fl, .int .i64 m, .string s, .slice A1 ks.length c1, .slice A2 kids.length c2], .func (.func 70) #[] #[.pointer (some ⟨w.heap.size + 1 + 1, 0, none⟩)], args.getD 0 undef, args.getD 1 undef, undef, undef, undef, undef], defers := [] }) ?assign ?body ?done ?stop
  case assign =>
    rintro l x _ W K ⟨us, rfl, _⟩ hK
    gi_wp2
    simpa using hK
  case body =>
    rintro l p x _ W ⟨hrow, hbel⟩ hpre ⟨us, rfl, hx⟩ hW
    have hc : W.cell? ⟨w.heap.size + 1, 0, none⟩ = some (.int .i64 (maxD p : Nat)) := by rw [cell_of_row W _ 0 _ _ _ hrow]; rfl
    have hf := frozen_of_row W (w.heap.size + 1) 0 _ _ hrow
    have Hrow := Lib.hid hrow
    have Hbel := Lib.hid hbel
    clear hrow hbel hpre hx
    gi_wp2
    all_goals
      refine ⟨⟨rfl, rfl, rfl, by simp, fun b _ hb => Below.heap_setCell _ _ _ _ (fun e => hb (by rw [e]; exact List.mem_cons_self))⟩, ?_, Hbel.out.setCell (p := ⟨w.heap.size + 1, 0, none⟩) (by simp) _⟩
      rw [heap_setCell_same W _ 0 _ _ _ Hrow.out]
      refine congrArg (fun z : Int => some (Obj.cells #[Value.int .i64 z] 3 (0, 0))) ?_
      rw [maxD_append]
      simp only [maxD]
      omega
  case done =>
    rintro D W hD ⟨hrow, hbel⟩ hK
    have hc : W.cell? ⟨w.heap.size + 1, 0, none⟩ = some (.int .i64 (maxD (pre 1 t) : Nat)) := by rw [cell_of_row W _ 0 _ _ _ hrow]; rfl
    rw [Hlen.out] at hc
    have HK := Lib.hid hK
    have Hbel := Lib.hid hbel
    clear hK hbel hrow
    gi_wp2
    refine ⟨by simp, .inl ⟨_, _, rfl, run_takeDeferred HK.out, ?_⟩⟩
    exact ⟨_, results_tmp rfl _ _ _, rfl, Hbel.out.trans (below_put _ _ (by have := Hs3.out; omega))⟩
  case stop =>
    rintro D p W _ _ h _
    exact h.elim
end Go.Proofs.YtlnfbpdicjcpgaaDoor.tree
namespace Go.Proofs.YtlnfbpdicjcpgaaDoor.tree
open Go.ChangeShapes Go.WideShapes Go.ChangeAt Go.RowKit Go.Shelf
set_option linter.unusedVariables false
attribute [local go_sem] Oper.semAt_some

set_option maxRecDepth 100000 in
set_option maxHeartbeats 4000000 in
theorem impl_leaves (f : Nat) (t : T) (vs : List Value) (w : World) (h : LiesS w f vs (row t)) (hsz : size t ≤ 1099511627776) :
    Calls Tryd.prog 26 #[.agg vs.toArray] w fun e w' => e = .returned (.int .i64 (leaves t : Nat)) ∧ Below w.heap.size w w' := by
  refine (callsIn_wide (n := 5)).1 ?_
  obtain ⟨k, fl, m, s, ks, kids⟩ := t
  obtain ⟨A1, c1, A2, c2, rfl, _, _, _, _, _, _, _, _, _, _⟩ := open_tree h
  obtain ⟨t, ht⟩ : ∃ t, t = T.mk k fl m s ks kids := ⟨_, rfl⟩
  rw [← ht] at h hsz ⊢
  obtain ⟨w3, hw3⟩ : ∃ w3, w3 = ((w.alloc (.cells #[.int .i64 k, .bool fl, .int .i64 m, .string s, .slice A1 ks.length c1, .slice A2 kids.length c2] 29)).alloc (.cells #[.int .i64 0] 3)).alloc (.cells #[.int .i64 k, .bool fl, .int .i64 m, .string s, .slice A1 ks.length c1, .slice A2 kids.length c2] 29) := ⟨_, rfl⟩
  have hs3 : w3.heap.size = w.heap.size + 3 := by rw [hw3]; simp
  have hb3 : Below w.heap.size w w3 := by rw [hw3]; exact (((Below.refl _ w).alloc (Nat.le_refl _) _).alloc (by simp) _).alloc (by simp; omega) _
  have hrow : w3.heap[w.heap.size + 1 + 1]? = some (.cells #[.int .i64 k, .bool fl, .int .i64 m, .string s, .slice A1 ks.length c1, .slice A2 kids.length c2] 29 (0, 0)) := by
    have h := heap_alloc_new ((w.alloc (.cells #[.int .i64 k, .bool fl, .int .i64 m, .string s, .slice A1 ks.length c1, .slice A2 kids.length c2] 29)).alloc (.cells #[.int .i64 0] 3)) (.cells #[.int .i64 k, .bool fl, .int .i64 m, .string s, .slice A1 ks.length c1, .slice A2 kids.length c2] 29)
    rw [World.size_alloc, World.size_alloc] at h
    rw [hw3]
    exact h
  have hbox : w3.heap[w.heap.size + 1]? = some (.cells #[.int .i64 0] 3 (0, 0)) := by
    have h := heap_alloc_new (w.alloc (.cells #[.int .i64 k, .bool fl, .int .i64 m, .string s, .slice A1 ks.length c1, .slice A2 kids.length c2] 29)) (.cells #[.int .i64 0] 3)
    rw [World.size_alloc] at h
    rw [hw3, Below.heap_alloc _ _ _ (by simp)]
    exact h
  have Hiter := Lib.hid (iter_tree (5 - 1) f t _ w w3 h hsz (w.heap.size + 1 + 1) hb3 (by omega) hrow)
  have hlen := sumL_pre t 1
  have hlen2 := leaves_le_size t
  have Hsz := Lib.hid hsz
  have Hlen := Lib.hid hlen
  have Hlen2 := Lib.hid hlen2
  have Hb3 := Lib.hid hb3
  have Hbox := Lib.hid hbox
  have Hs3 := Lib.hid hs3
  have Hw3 := Lib.hid hw3
  have Hht := Lib.hid ht
  clear ht h hsz hlen hlen2 hb3 hrow hbox hs3 hw3
  refine callsIn_of_wp_marks Tryd.func26 rfl trivial ?_ rfl
  simp only [Tryd.ntmps26, List.size_toArray, List.length_cons, List.length_nil, Nat.reduceAdd, Nat.reduceSub, Array.replicate_succ, Array.replicate_zero, List.push_toArray, List.append_toArray, List.nil_append, List.cons_append]
  gi_wp2_with (refine ⟨trivial, ?_⟩; gi_at_call 52; refine (callsIn_wide.2 (treesIn_call k fl m s _ _ _)).mono ?_; rintro e w' ⟨rfl, rfl⟩)
  rw [← Hw3.out]
  refine wpIn_range_iterA rfl (enters_of Tryd.func70 (by kernel_rfl) rfl) Hiter.out (fun x args h => by obtain ⟨us, rfl, _⟩ := h; rfl) [w.heap.size + 1] (fun x hx => by simp at hx; have := Hs3.out; omega)
    (fun x hx => by have := Hs3.out; omega)
    (fun p W => W.heap[w.heap.size + 1]? = some (.cells #[.int .i64 (sumL p : Nat)] 3 (0, 0)) ∧ Below w.heap.size w W) (fun _ _ => False)
    (fun p A B hi hb => ⟨(hb.block _ (by have := Hs3.out; omega)).trans hi.1, hi.2.trans (hb.mono (by have := Hs3.out; omega))⟩) (fun _ _ _ h _ => h) ⟨Hbox.out, Hb3.out⟩
    (fun x args a1 W W1 => ∃ u0 u1 u2 u3 u4 u5, args = #[.agg #[u0, u1, u2, u3, u4, u5], .int .i64 (x.2 : Nat)] ∧ LiesS w f [u0, u1, u2, u3, u4, u5] (row x.1) ∧ W1 = W.alloc (.cells #[u0, u1, u2, u3, u4, u5] 29) ∧
      a1 = { tmps := #[.agg #[.int .i64 k, .bool fl, .int .i64 m, .string s, .slice A1 ks.length c1, .slice A2 kids.length c2], .pointer (some ⟨w.heap.size, 0, none⟩), .int .i64 0, .pointer (some ⟨w.heap.size + 1, 0, none⟩), .pointer (some ⟨W.heap.size, 0, none⟩), .agg #[.int .i64 k, .bool fl, .int .i64 m, .string s, .slice A1 ks.length c1, .slice A2 kids.length c2], .func (.func 70) #[] #[.pointer (some ⟨w.heap.size + 1 + 1, 0, none⟩)], .agg #[u0, u1, u2, u3, u4, u5], .int .i64 (x.2 : Nat), undef, undef, undef, undef, undef, undef, undef, undef, undef, undef, undef, undef, undef, undef, undef, undef, undef], defers := [] })
    (fun x args a1 W W1 h => by obtain ⟨u0, u1, u2, u3, u4, u5, _, _, rfl, _⟩ := h; exact (Below.refl _ _).alloc (Nat.le_refl _) _) ?assign ?body ?done ?stop
  case assign =>
    rintro l x _ W K ⟨us, rfl, hx⟩ hW hK
    obtain ⟨u0, u1, u2, u3, u4, u5, rfl⟩ := six_of (hx.1.trans (row_length x.1))
    have HK := Lib.hid (hK _ _ ⟨u0, u1, u2, u3, u4, u5, rfl, hx, rfl, rfl⟩)
    have hone := LiesS.one hx
    clear hK hx
    iterate 5 (first | go_values | gi_guarded | gi_step | gi_upon)
    refine wpListIn_store_row rfl 29 _ _ rfl W.heap.size #[u0, u1, u2, u3, u4, u5] rfl rfl 29 _ (heap_alloc_new W _) tree_six rfl hone ?_
    rw [World.setRow_alloc_new]
    gi_wp2
    exact HK.out
  case body =>
    rintro l p x _ a1 W W1 W2 ⟨hrow, hbel⟩ hpre _ hW ⟨u0, u1, u2, u3, u4, u5, rfl, hx, rfl, rfl⟩ hk2
    obtain ⟨⟨k', fl', n', s', ks', kids'⟩, d⟩ := x
    obtain ⟨A1', c1', A2', c2', e, _, _, _, _, _, _, _, _, _, _⟩ := open_tree hx
    obtain ⟨rfl, rfl, rfl, rfl, rfl, rfl⟩ : u0 = _ ∧ u1 = _ ∧ u2 = _ ∧ u3 = _ ∧ u4 = _ ∧ u5 = _ := by simpa using e
    have hnx : W2.heap[W.heap.size]? = some (.cells #[.int .i64 k', .bool fl', .int .i64 n', .string s', .slice A1' ks'.length c1', .slice A2' kids'.length c2'] 29 (0, 0)) := by
      rw [hk2.block _ (by simp) (by simp; have := Hs3.out; omega)]
      exact heap_alloc_new W _
    obtain ⟨d0, d1, d2, d3, d4, d5⟩ := Row6.of hnx
    have hc : W2.cell? ⟨w.heap.size + 1, 0, none⟩ = some (.int .i64 (sumL p : Nat)) := by rw [cell_of_row W2 _ 0 _ _ _ hrow]; rfl
    have hf := frozen_of_row W2 (w.heap.size + 1) 0 _ _ hrow
    have hp : (sumL p : Int) + 1 ≤ 9223372036854775807 := by
      obtain ⟨r, hr⟩ := hpre
      have h1 := Hlen.out
      rw [← hr, sumL_append, sumL_append] at h1
      have h2 := Hlen2.out
      have h3 := Hsz.out
      omega
    have hadd : sumL (p ++ [(T.mk k' fl' n' s' ks' kids', d)]) = sumL p + leaf1 (T.mk k' fl' n' s' ks' kids') := by rw [sumL_append]; simp [sumL]
    have Hrow := Lib.hid hrow
    have Hbel := Lib.hid hbel
    have Hadd := Lib.hid hadd
    clear hrow hbel hpre hx hnx hadd hk2 e d1 d2 d3 d4
    by_cases h0 : kids'.length = 0
    · have g0 : (((kids'.length : Nat) : Int) == 0) = true := by simp [h0]
      by_cases h5 : k' = 5
      · have hl : leaf1 (T.mk k' fl' n' s' ks' kids') = 0 := by simp [leaf1, T.kind, h5]
        have g5 : (k' != 5) = false := by simp [h5]
        rw [hl, Nat.add_zero] at Hadd
        clear hl h5 h0
        gi_wp2
        exact ⟨KeptBut.refl _ _, by rw [Hadd.out]; exact Hrow.out, Hbel.out⟩
      · have g5 : (k' != 5) = true := by simpa using h5
        by_cases h6 : k' = 6
        · have hl : leaf1 (T.mk k' fl' n' s' ks' kids') = 0 := by simp [leaf1, T.kind, h6]
          have g6 : (k' != 6) = false := by simp [h6]
          rw [hl, Nat.add_zero] at Hadd
          clear hl h5 h6 h0
          gi_wp2
          exact ⟨KeptBut.refl _ _, by rw [Hadd.out]; exact Hrow.out, Hbel.out⟩
        · have hl : leaf1 (T.mk k' fl' n' s' ks' kids') = 1 := by simp [leaf1, T.kind, T.kids, h5, h6, h0]
          have g6 : (k' != 6) = true := by simpa using h6
          rw [hl] at Hadd
          clear hl h5 h6 h0
          gi_wp2
          refine ⟨⟨rfl, rfl, rfl, by simp, fun b _ hb => Below.heap_setCell _ _ _ _ (fun e => hb (by rw [e]; exact List.mem_cons_self))⟩, ?_, Hbel.out.setCell (p := ⟨w.heap.size + 1, 0, none⟩) (by simp) _⟩
          rw [heap_setCell_same W2 _ 0 _ _ _ Hrow.out, Hadd.out]
          rfl
    · have g0 : (((kids'.length : Nat) : Int) == 0) = false := by
        have : ((kids'.length : Nat) : Int) ≠ 0 := by omega
        simpa using h0
      have hl : leaf1 (T.mk k' fl' n' s' ks' kids') = 0 := by simp [leaf1, T.kids]; intro h; simp [h] at h0
      rw [hl, Nat.add_zero] at Hadd
      clear hl h0
      gi_wp2
      exact ⟨KeptBut.refl _ _, by rw [Hadd.out]; exact Hrow.out, Hbel.out⟩
  case done =>
    rintro D W hD ⟨hrow, hbel⟩ hK
    have hc : W.cell? ⟨w.heap.size + 1, 0, none⟩ = some (.int .i64 (sumL (pre 1 t) : Nat)) := by rw [cell_of_row W _ 0 _ _ _ hrow]; rfl
    rw [Hlen.out] at hc
    have HK := Lib.hid hK
    have Hbel := Lib.hid hbel
    clear hK hbel hrow
    gi_wp2
    refine ⟨by simp, .inl ⟨_, _, rfl, run_takeDeferred HK.out, ?_⟩⟩
    exact ⟨_, results_tmp rfl _ _ _, rfl, Hbel.out.trans (below_put _ _ (by have := Hs3.out; omega))⟩
  case stop =>
    rintro D p W _ _ h _
    exact h.elim
end Go.Proofs.YtlnfbpdicjcpgaaDoor.tree
