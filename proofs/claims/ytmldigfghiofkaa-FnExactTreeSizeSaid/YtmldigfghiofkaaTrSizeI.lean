/- impl.TreeSize. -/
import Derived.Test.YtmldigfghiofkaaTrIterW
namespace Go.Proofs.Ytmldigfghiofkaa.tree
open Go.ChangeShapes Go.WideShapes Go.ChangeAt Go.RowKit Go.Shelf
set_option linter.unusedVariables false
attribute [local go_sem] Oper.semAt_some

set_option maxRecDepth 100000 in
set_option maxHeartbeats 4000000 in
theorem impl_size (f : Nat) (t : T) (vs : List Value) (w : World) (h : LiesS w f vs (row t)) (hsz : size t ≤ 1099511627776) :
    Calls Try.prog 14 #[.agg vs.toArray] w fun e w' => e = .returned (.int .i64 (size t : Nat)) ∧ Below w.heap.size w w' := by
  refine (callsIn_wide (n := 5)).1 ?_
  obtain ⟨k, fl, m, s, ks, kids⟩ := t
  obtain ⟨A1, c1, A2, c2, rfl, _, _, _, _, _, _, _, _, _, _⟩ := open_tree h
  obtain ⟨t, ht⟩ : ∃ t, t = T.mk k fl m s ks kids := ⟨_, rfl⟩
  rw [← ht] at h hsz ⊢
  obtain ⟨w3, hw3⟩ : ∃ w3, w3 = ((w.alloc (.cells #[.int .i64 k, .bool fl, .int .i64 m, .string s, .slice A1 ks.length c1, .slice A2 kids.length c2] 30)).alloc (.cells #[.int .i64 0] 3)).alloc (.cells #[.int .i64 k, .bool fl, .int .i64 m, .string s, .slice A1 ks.length c1, .slice A2 kids.length c2] 30) := ⟨_, rfl⟩
  have hs3 : w3.heap.size = w.heap.size + 3 := by rw [hw3]; simp
  have hb3 : Below w.heap.size w w3 := by rw [hw3]; exact (((Below.refl _ w).alloc (Nat.le_refl _) _).alloc (by simp) _).alloc (by simp; omega) _
  have hrow : w3.heap[w.heap.size + 1 + 1]? = some (.cells #[.int .i64 k, .bool fl, .int .i64 m, .string s, .slice A1 ks.length c1, .slice A2 kids.length c2] 30 (0, 0)) := by
    have h := heap_alloc_new ((w.alloc (.cells #[.int .i64 k, .bool fl, .int .i64 m, .string s, .slice A1 ks.length c1, .slice A2 kids.length c2] 30)).alloc (.cells #[.int .i64 0] 3)) (.cells #[.int .i64 k, .bool fl, .int .i64 m, .string s, .slice A1 ks.length c1, .slice A2 kids.length c2] 30)
    rw [World.size_alloc, World.size_alloc] at h
    rw [hw3]
    exact h
  have hbox : w3.heap[w.heap.size + 1]? = some (.cells #[.int .i64 0] 3 (0, 0)) := by
    have h := heap_alloc_new (w.alloc (.cells #[.int .i64 k, .bool fl, .int .i64 m, .string s, .slice A1 ks.length c1, .slice A2 kids.length c2] 30)) (.cells #[.int .i64 0] 3)
    rw [World.size_alloc] at h
    rw [hw3, Below.heap_alloc _ _ _ (by simp)]
    exact h
  have Hiter := Lib.hid (iter_tree (5 - 1) f t _ w w3 h hsz (w.heap.size + 1 + 1) hb3 (by omega) hrow)
  have hlen := pre_length t 1
  have Hsz := Lib.hid hsz
  have Hlen := Lib.hid hlen
  have Hb3 := Lib.hid hb3
  have Hbox := Lib.hid hbox
  have Hs3 := Lib.hid hs3
  have Hw3 := Lib.hid hw3
  have Hht := Lib.hid ht
  clear ht h hsz hlen hb3 hrow hbox hs3 hw3
  refine callsIn_of_wp_marks Try.func14 rfl trivial ?_ rfl
  simp only [Try.ntmps14, List.size_toArray, List.length_cons, List.length_nil, Nat.reduceAdd, Nat.reduceSub, Array.replicate_succ, Array.replicate_zero, List.push_toArray, List.append_toArray, List.nil_append, List.cons_append]
  gi_wp2_with (refine ⟨trivial, ?_⟩; gi_at_call 38; refine (callsIn_wide.2 (treesIn_call k fl m s _ _ _)).mono ?_; rintro e w' ⟨rfl, rfl⟩)
  rw [← Hw3.out]
  refine wpIn_range_iter rfl (enters_of Try.func51 (by kernel_rfl) rfl) Hiter.out (fun x args h => by obtain ⟨us, rfl, _⟩ := h; rfl) [w.heap.size + 1] (fun x hx => by simp at hx; have := Hs3.out; omega)
    (fun x hx => by have := Hs3.out; omega)
    (fun p W => W.heap[w.heap.size + 1]? = some (.cells #[.int .i64 (p.length : Nat)] 3 (0, 0)) ∧ Below w.heap.size w W) (fun _ _ => False)
    (fun p A B hi hb => ⟨(hb.block _ (by have := Hs3.out; omega)).trans hi.1, hi.2.trans (hb.mono (by have := Hs3.out; omega))⟩) (fun _ _ _ h _ => h) ⟨Hbox.out, Hb3.out⟩
    (fun args => { tmps := #[.agg #[.int .i64 k, .bool fl, .int .i64 m, .string s, .slice A1 ks.length c1, .slice A2 kids.length c2], .pointer (some ⟨w.heap.size, 0, none⟩), .int .i64 0, .pointer (some ⟨w.heap.size + 1, 0, none⟩), .agg #[.int .i64 k, .bool fl, .int .i64 m, .string s, .slice A1 ks.length c1, .slice A2 kids.length c2], .func (.func 51) #[] #[.pointer (some ⟨w.heap.size + 1 + 1, 0, none⟩)], args.getD 0 undef, args.getD 1 undef, undef, undef, undef], defers := [] }) ?assign ?body ?done ?stop
  case assign =>
    rintro l x _ W K ⟨us, rfl, _⟩ hK
    gi_wp2
    simpa using hK
  case body =>
    rintro l p x _ W ⟨hrow, hbel⟩ hpre ⟨us, rfl, hx⟩ hW
    have hc : W.cell? ⟨w.heap.size + 1, 0, none⟩ = some (.int .i64 (p.length : Nat)) := by rw [cell_of_row W _ 0 _ _ _ hrow]; rfl
    have hf := frozen_of_row W (w.heap.size + 1) 0 _ _ hrow
    have hp : (p.length : Int) + 1 ≤ 9223372036854775807 := by
      have h1 := hpre.length_le
      have h2 := Hlen.out
      have h3 := Hsz.out
      simp at h1
      omega
    have Hrow := Lib.hid hrow
    have Hbel := Lib.hid hbel
    clear hrow hbel hpre hx
    gi_wp2
    have e1 : (((p ++ [x]).length : Nat) : Int) = (p.length : Int) + 1 := by simp
    refine ⟨⟨rfl, rfl, rfl, by simp, fun b _ hb => Below.heap_setCell _ _ _ _ (fun e => hb (by rw [e]; exact List.mem_cons_self))⟩, ?_, Hbel.out.setCell (p := ⟨w.heap.size + 1, 0, none⟩) (by simp) _⟩
    rw [heap_setCell_same W _ 0 _ _ _ Hrow.out, e1]
    rfl
  case done =>
    rintro D W hD ⟨hrow, hbel⟩ hK
    have hc : W.cell? ⟨w.heap.size + 1, 0, none⟩ = some (.int .i64 ((pre 1 t).length : Nat)) := by rw [cell_of_row W _ 0 _ _ _ hrow]; rfl
    rw [Hlen.out] at hc
    have HK := Lib.hid hK
    have Hbel := Lib.hid hbel
    clear hK hbel hrow
    gi_wp2
    refine ⟨by simp, .inl ⟨_, _, rfl, run_takeDeferred HK.out, ?_⟩⟩
    exact ⟨_, results_tmp rfl _ _ _, rfl, Hbel.out.trans (below_put _ _ (by have := Hs3.out; omega))⟩
  case stop =>
    rintro D p W _ _ h _
    exact h.elim
end Go.Proofs.Ytmldigfghiofkaa.tree
