/- impl.AmountField. Printed by gen/gen_ifields.py. -/
import Derived.Test.YtangdmjdjiddcaaGreatDoorFaultOfI
import Derived.Test.YtangdmjdjiddcaaGreatDoorAmtInI
namespace Go.Proofs.YtangdmjdjiddcaaGreatDoor.field
open Go.ChangeShapes Go.WideShapes Go.ChangeAt Go.RowKit tree
set_option linter.unusedVariables false
set_option linter.unusedSimpArgs false

set_option maxRecDepth 100000 in
set_option maxHeartbeats 16000000 in
theorem impl_amount {f : Nat} (t : T) (p k : ByteArray) (vs : List Value) (w : World) (h : LiesS w f vs (row t)) (hw : weight t ≤ 1048576) (hp : p.size ≤ 1048576) (hk : k.size ≤ 1048576) (hE : ET w) (hPw : decimal.Pow w) (hRg : readnum.ErrVar w "strconv.ErrRange") (hSx : readnum.ErrVar w "strconv.ErrSyntax") :
  Calls Tryz.prog 10 #[.agg vs.toArray, .string p, .string k] w fun e w' => e = .returned (.tuple #[.int .i64 (amountF t p k).1, fv (amountF t p k).2]) ∧ Below w.heap.size w w' := by
  obtain ⟨u0, u1, u2, u3, u4, u5, rfl⟩ := six_of (h.1.trans (row_length t))
  obtain ⟨w1, hw1⟩ : ∃ w1, w1 = w.alloc (.cells #[u0, u1, u2, u3, u4, u5] 27) := ⟨_, rfl⟩
  obtain ⟨w2, hw2⟩ : ∃ w2, w2 = w1.alloc (.cells #[.int .i64 0, .int .i64 0, .string ⟨#[]⟩] 31) := ⟨_, rfl⟩
  have hb2 : Below w.heap.size w w2 := by subst hw2; subst hw1; exact ((Below.refl _ _).alloc (Nat.le_refl _) _).alloc (by simp) _
  have h20 : w2.heap[w.heap.size]? = some (.cells #[u0, u1, u2, u3, u4, u5] 27 (0, 0)) := by subst hw2; subst hw1; rw [Below.heap_alloc _ _ _ (by simp)]; exact heap_alloc_new w _
  have h21 : w2.heap[w.heap.size + 1]? = some (.cells #[.int .i64 0, .int .i64 0, .string ⟨#[]⟩] 31 (0, 0)) := by subst hw2; have h := heap_alloc_new w1 (.cells #[.int .i64 0, .int .i64 0, .string ⟨#[]⟩] 31); rw [show w1.heap.size = w.heap.size + 1 by rw [hw1]; simp] at h; exact h
  have HI := Lib.hid (amount_fieldIn t p k _ w2 (h.below hb2) hp hk (hPw.below hb2) (hRg.below hb2) (hSx.below hb2))
  rw [amount_in t p k]
  have HO := Lib.hid (fun o w' (hb : Below w.heap.size w w') => impl_faultOf o w' (hE.below hb))
  obtain ⟨R, hR⟩ : ∃ R, inF 0 (amountR) t p k = R := ⟨_, rfl⟩
  rw [hR] at HI ⊢
  have Hw1 := Lib.hid hw1
  have Hw2 := Lib.hid hw2
  have Hb2 := Lib.hid hb2
  have H21 := Lib.hid h21
  obtain ⟨p0, p1, p2, p3, p4, p5⟩ := Row6.of h20
  rw [Hw2.out, Hw1.out] at p0 p1 p2 p3 p4 p5
  clear h hw hw1 hw2 hb2 h20 h21 hp hk hE hR hPw hRg hSx
  obtain ⟨rv, o⟩ := R
  have HO := Lib.hid (HO.out o)
  dsimp only at HI ⊢
  generalize errV o = ev at HI HO
  generalize flt o = g at HO ⊢
  obtain ⟨gc, gq⟩ := g
  go_enter Tryz.func10, Tryz.ntmps10
  go_wp2_with fail
  rw [← Hw1.out, ← Hw2.out]
  refine HI.out.mono ?_
  rintro e w3 ⟨rfl, hb3⟩
  have Hb3 := Lib.hid (below_link Hb2.out hb3 Hb2.out.size)
  have H31 := Lib.hid (heap_kept hb3 (heap_lt H21.out) H21.out)
  have HO3 := Lib.hid (HO.out w3 Hb3.out)
  clear HI hb3 p0 p1 p2 p3 p4 p5 HO
  go_wp2_with fail
  refine HO3.out.mono ?_
  rintro e w4 ⟨rfl, hb4⟩
  have Hb4 := Lib.hid (below_link Hb3.out hb4 Hb3.out.size)
  have H41 := Lib.hid (heap_kept hb4 (heap_lt H31.out) H31.out)
  clear HO3 hb4 H31 H21
  go_wp2_with (first | (refine wpList_store_row rfl 31 _ _ rfl (w.heap.size + 1) #[.int .i64 gc, .int .i64 0, .string gq] rfl rfl 31 _ H41.out sizeFault rfl (by simp [Value.oneCell']) ?_) | fail)
  refine bodyPost_ret (v := .tuple #[.int .i64 rv, fv (gc, gq)]) ?_ rfl ⟨rfl, setRow_below Hb4.out (by omega) _⟩
  exact ret_vf rfl rfl rfl (setRow_at H41.out)
end Go.Proofs.YtangdmjdjiddcaaGreatDoor.field
