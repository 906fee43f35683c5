/- impl.ListField. Printed by gen/gen_ifields.py. -/
import Derived.Test.YtangdmjdjiddcaaDoorOrUsLI
import Derived.Test.YtangdmjdjiddcaaDoorListInI
namespace Go.Proofs.YtangdmjdjiddcaaDoor.field
open Go.ChangeShapes Go.WideShapes Go.ChangeAt Go.RowKit tree
set_option linter.unusedVariables false
set_option linter.unusedSimpArgs false

set_option maxRecDepth 100000 in
set_option maxHeartbeats 16000000 in
theorem impl_list {f : Nat} (t : T) (p k : ByteArray) (most : Int) (vs : List Value) (w : World) (h : LiesS w f vs (row t)) (hw : weight t ≤ 1048576) (hp : p.size ≤ 1048576) (hk : k.size ≤ 1048576) (hE : ET w) :
  Calls Tryd.prog 25 #[.agg vs.toArray, .string p, .string k, .int .i64 most] w fun e w' => LFOut w.heap.size (listF t p k most) e w' ∧ Below w.heap.size w w' := by
  obtain ⟨u0, u1, u2, u3, u4, u5, rfl⟩ := six_of (h.1.trans (row_length t))
  obtain ⟨w1, hw1⟩ : ∃ w1, w1 = w.alloc (.cells #[u0, u1, u2, u3, u4, u5] 35) := ⟨_, rfl⟩
  obtain ⟨wa, hwa⟩ : ∃ wa, wa = w1.alloc (.cells #[.int .i64 most] 3) := ⟨_, rfl⟩
  obtain ⟨w2, hw2⟩ : ∃ w2, w2 = wa.alloc (.cells #[.int .i64 0, .int .i64 0, .string ⟨#[]⟩] 31) := ⟨_, rfl⟩
  have s1 : w1.heap.size = w.heap.size + 1 := by rw [hw1]; simp
  have sa : wa.heap.size = w.heap.size + 2 := by rw [hwa]; simp [s1]
  have b1 : Below w.heap.size w w1 := by subst hw1; exact (Below.refl _ _).alloc (Nat.le_refl _) _
  have ba : Below w.heap.size w wa := by subst hwa; exact b1.alloc (by omega) _
  have hb2 : Below w.heap.size w w2 := by subst hw2; exact ba.alloc (by omega) _
  have h20 : w2.heap[w.heap.size]? = some (.cells #[u0, u1, u2, u3, u4, u5] 35 (0, 0)) := by subst hw2; rw [Below.heap_alloc _ _ _ (by omega)]; subst hwa; rw [Below.heap_alloc _ _ _ (by omega)]; subst hw1; exact heap_alloc_new w _
  have h2a : w2.heap[w.heap.size + 1]? = some (.cells #[.int .i64 most] 3 (0, 0)) := by subst hw2; rw [Below.heap_alloc _ _ _ (by omega)]; subst hwa; rw [← s1]; exact heap_alloc_new w1 _
  have h21 : w2.heap[w.heap.size + 2]? = some (.cells #[.int .i64 0, .int .i64 0, .string ⟨#[]⟩] 31 (0, 0)) := by subst hw2; rw [← sa]; exact heap_alloc_new wa _
  have HI := Lib.hid (list_fieldIn t p k most (w.heap.size + 1) _ w2 (h.below hb2) hp hk hw h2a)
  rw [list_in]
  have HO := Lib.hid (fun rv o w' (hb : Below w.heap.size w w') => orUsual_list rv (.slice none 0 0) o w' (hE.below hb))
  generalize inF [] (listR most) t p k = R at HI ⊢
  have Hw1 := Lib.hid hw1
  have Hwa := Lib.hid hwa
  have Hw2 := Lib.hid hw2
  have Hb2 := Lib.hid hb2
  have H21 := Lib.hid h21
  obtain ⟨p0, p1, p2, p3, p4, p5⟩ := Row6.of h20
  rw [Hw2.out, Hwa.out, Hw1.out] at p0 p1 p2 p3 p4 p5
  clear h hw hw1 hw2 hwa hb2 b1 ba h20 h21 h2a hp hk hE s1 sa
  obtain ⟨rl, o⟩ := R
  simp only [LEOut] at HI
  have HO := Lib.hid (fun rv => HO.out rv o)
  unfold usF
  unfold usF at HO
  simp only at HO ⊢
  generalize errV o = ev at HI HO
  generalize flt o = g at HO ⊢
  obtain ⟨gc, gq⟩ := g
  go_enter Tryd.func25, Tryd.ntmps25
  go_wp2_with fail
  rw [← Hw1.out, ← Hwa.out, ← Hw2.out]
  refine HI.out.mono ?_
  rintro e w3 ⟨⟨fo, v, Fo, rfl, ho, hnd⟩, hb3⟩
  have Hb3 := Lib.hid (below_link Hb2.out hb3 Hb2.out.size)
  have H31 := Lib.hid (heap_kept hb3 (heap_lt H21.out) H21.out)
  have HO3 := Lib.hid (HO.out v w3 Hb3.out)
  have Hsz := Lib.hid (heap_lt H21.out)
  have Ho := Lib.hid ho
  clear HI hb3 p0 p1 p2 p3 p4 p5 HO ho
  by_cases h12 : gc = 12
  · simp only [h12, if_true] at HO3 ⊢
    subst h12
    go_wp2_with fail
    refine HO3.out.mono ?_
    rintro e w4 ⟨rfl, hb4⟩
    have Hb4 := Lib.hid (below_link Hb3.out hb4 Hb3.out.size)
    have H41 := Lib.hid (heap_kept hb4 (heap_lt H31.out) H31.out)
    clear HO3 hb4 H31 H21
    go_wp2_with (first | (refine wpList_store_row rfl 31 _ _ rfl (w.heap.size + 2) #[.int .i64 0, .int .i64 0, .string ⟨#[]⟩] rfl rfl 31 _ H41.out sizeFault rfl (by simp [Value.oneCell']) ?_) | fail)
    refine bodyPost_ret (v := .tuple #[.slice none 0 0, fv good]) ?_ rfl ⟨⟨1, _, [], rfl, own_nil _ _ 0 6, List.nodup_nil⟩, setRow_below Hb4.out (by omega) _⟩
    exact ret_vf rfl rfl rfl (setRow_at H41.out)
  · simp only [h12, if_false] at HO3 ⊢
    go_wp2_with fail
    refine HO3.out.mono ?_
    rintro e w4 ⟨rfl, hb4⟩
    have Hb4 := Lib.hid (below_link Hb3.out hb4 Hb3.out.size)
    have H41 := Lib.hid (heap_kept hb4 (heap_lt H31.out) H31.out)
    have Ho4 := Lib.hid (Ho.out.below hb4)
    clear HO3 hb4 H31 H21 Ho
    have hfar : ∀ y ∈ Fo, y ≠ w.heap.size + 2 := fun y hy => by have h1 := (Ho4.out.range y hy).1; have h2 := Hsz.out; omega
    go_wp2_with (first | (refine wpList_store_row rfl 31 _ _ rfl (w.heap.size + 2) #[.int .i64 gc, .int .i64 0, .string gq] rfl rfl 31 _ H41.out sizeFault rfl (by simp [Value.oneCell']) ?_) | fail)
    refine bodyPost_ret (v := .tuple #[v, fv (gc, gq)]) ?_ rfl ⟨⟨_, _, Fo, rfl, ((Own.kept (fun y hy => setRow_other _ _ _ _ (hfar y hy)) Ho4.out).lower Hb2.out.size), hnd⟩, setRow_below Hb4.out (by omega) _⟩
    exact ret_vf rfl rfl rfl (setRow_at H41.out)
end Go.Proofs.YtangdmjdjiddcaaDoor.field
