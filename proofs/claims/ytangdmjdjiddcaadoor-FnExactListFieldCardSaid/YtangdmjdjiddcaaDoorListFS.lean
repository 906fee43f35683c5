/- spec.ListField. Printed by gen/gen_fields.py. -/
import Derived.Test.YtangdmjdjiddcaaDoorGA4
import Derived.Test.YtangdmjdjiddcaaDoorFaultS
import Derived.Test.YtangdmjdjiddcaaDoorGA6
namespace Go.Proofs.YtangdmjdjiddcaaDoor.field
open Go.ChangeShapes Go.WideShapes Go.ChangeAt Go.RowKit tree
set_option linter.unusedVariables false
set_option linter.unusedSimpArgs false

set_option maxRecDepth 100000 in
set_option maxHeartbeats 16000000 in
theorem spec_list {f : Nat} (t : T) (p k : ByteArray) (most : Int) (vs : List Value) (w : World) (h : LiesS w f vs (row t)) (hw : weight t ≤ 1048576) (hp : p.size ≤ 1048576) (hk : k.size ≤ 1048576) :
    Calls Tryd.prog 24 #[.agg vs.toArray, .string p, .string k, .int .i64 most] w fun e w' => LFOut w.heap.size (listF t p k most) e w' ∧ Below w.heap.size w w' := by
  obtain ⟨u0, u1, u2, u3, u4, u5, rfl⟩ := six_of (h.1.trans (row_length t))
  obtain ⟨w1, hw1⟩ : ∃ w1, w1 = (w.alloc (.cells #[u0, u1, u2, u3, u4, u5] 35)).alloc (.cells #[.int .i64 0, .int .i64 0, .string ⟨#[]⟩] 31) := ⟨_, rfl⟩
  have hb1 : Below w.heap.size w w1 := by subst hw1; exact ((Below.refl _ _).alloc (Nat.le_refl _) _).alloc (by simp) _
  have h10 : w1.heap[w.heap.size]? = some (.cells #[u0, u1, u2, u3, u4, u5] 35 (0, 0)) := by
    subst hw1
    rw [Below.heap_alloc _ _ _ (by simp)]
    exact heap_alloc_new w _
  have h11 : w1.heap[w.heap.size + 1]? = some (.cells #[.int .i64 0, .int .i64 0, .string ⟨#[]⟩] 31 (0, 0)) := by
    subst hw1
    have h := heap_alloc_new (w.alloc (.cells #[u0, u1, u2, u3, u4, u5] 35)) (.cells #[.int .i64 0, .int .i64 0, .string ⟨#[]⟩] 31)
    simpa using h
  have HK := Lib.hid (spec_kid t k _ w1 (h.below hb1) hw)
  have HP := Lib.hid (fun w' => spec_key p k w' hp hk)
  have HF := Lib.hid (fun c q w' => spec_fault c q w')
  have H11 := Lib.hid h11
  have HS1 := Lib.hid (show w.heap.size + 1 < w1.heap.size by subst hw1; simp)
  have Hb1 := Lib.hid hb1
  have Hw1 := Lib.hid hw1
  obtain ⟨p0, p1, p2, p3, p4, p5⟩ := Row6.of h10
  rw [Hw1.out] at p0 p1 p2 p3 p4 p5
  obtain ⟨R, hR⟩ : ∃ R, listF t p k most = R := ⟨_, rfl⟩
  rw [hR]
  unfold listF at hR
  obtain ⟨q, hq⟩ : ∃ q, kidOf t k = q := ⟨_, rfl⟩
  rw [hq] at HK hR
  obtain ⟨K, b⟩ := q
  obtain ⟨kk, fl, n, s, ks, kids⟩ := K
  generalize pathKey p k = at_ at HP hR
  have HR := Lib.hid hR
  clear h h10 h11 hb1 hw1 hR hq hp hk hw
  go_enter Tryd.func24, Tryd.ntmps24
  go_wp2_with fail
  rw [← Hw1.out]
  refine HK.out.mono ?_
  rintro e w2 ⟨⟨us, F, rfl, ho, hnd⟩, hb2⟩
  obtain ⟨f2, hl⟩ : ∃ f2, LiesS w2 f2 us (row (.mk kk fl n s ks kids)) := ⟨_, ho.lies⟩
  obtain ⟨A1, c1, A2, c2, rfl, wk, wn, ws, _, _, _, _, hm1, hm2, f', rfl, _⟩ := open_tree hl
  have Hm := Lib.hid (show kids.length ≤ maxLen by omega)
  clear hm1 hm2
  have HLO := Lib.hid (show w.heap.size + 1 < w2.heap.size by have := HS1.out; have := hb2.size; omega)
  have h21 := heap_kept hb2 (heap_lt H11.out) H11.out
  have Hb2 := Lib.hid (below_link Hb1.out hb2 Hb1.out.size)
  have hz1 : (#[.int .i64 kk, .bool fl, .int .i64 n, .string s, .slice A1 ks.length c1, .slice A2 kids.length c2] : Array Value).all (·.oneCell') = true := by simp [Value.oneCell']
  obtain ⟨w3, hw3⟩ : ∃ w3, w3 = w2.alloc (.cells #[.int .i64 kk, .bool fl, .int .i64 n, .string s, .slice A1 ks.length c1, .slice A2 kids.length c2] 35) := ⟨_, rfl⟩
  have hb3 : Below w2.heap.size w2 w3 := by subst hw3; exact (Below.refl _ _).alloc (Nat.le_refl _) _
  have h31 := heap_kept hb3 (heap_lt h21) h21
  have Hb23 := Lib.hid hb3
  have hkid : w3.heap[w2.heap.size]? = some (.cells #[.int .i64 kk, .bool fl, .int .i64 n, .string s, .slice A1 ks.length c1, .slice A2 kids.length c2] 35 (0, 0)) := by subst hw3; exact heap_alloc_new w2 _
  have Hb3 := Lib.hid (below_link Hb2.out hb3 Hb2.out.size)
  have Hw3 := Lib.hid hw3
  have H31 := Lib.hid h31
  have Hkid := Lib.hid hkid
  have Ho := Lib.hid ho
  clear HK hb2 p0 p1 p2 p3 p4 p5 Hw1 ho hl h21 hb3 h31 hw3 H11 hkid
  have hz3 : w3.heap.size = w2.heap.size + 1 := by rw [Hw3.out]; simp
  have h3e : (w3.alloc (.cells #[] 35)).heap[w2.heap.size + 1]? = some (.cells #[] 35 (0, 0)) := by rw [← hz3]; exact heap_alloc_new w3 _
  have h3f := (Below.heap_alloc w3 (.cells #[] 35) (w.heap.size + 1) (heap_lt H31.out)).trans H31.out
  have HX := Lib.hid (Hb3.out.alloc Hb3.out.size (.cells #[] 35))
  have hlo := HLO.out
  cases b with
  | false =>
    have hE : R = ([], good) := HR.out.symm.trans (if_pos rfl)
    subst hE
    clear HR
    go_wp2_with (first | (refine wpList_store_row rfl 35 _ _ rfl w2.heap.size #[.int .i64 kk, .bool fl, .int .i64 n, .string s, .slice A1 ks.length c1, .slice A2 kids.length c2] rfl rfl 35 _ (heap_alloc_new w2 _) tree_size' rfl hz1 ?_; rw [World.setRow_alloc_new]) | (rw [← Hw3.out]; (refine wpList_store_row rfl 31 _ _ rfl (w.heap.size + 1) #[.int .i64 0, .int .i64 0, .string ⟨#[]⟩] rfl rfl 31 _ h3f sizeFault rfl (by simp [Value.oneCell']) ?_)) | fail)
    obtain ⟨F0, o1, o2⟩ := own_none6 (B := w.heap.size + 2) (by omega) h3e
    refine bodyPost_ret (v := .tuple #[.slice (some ⟨w2.heap.size + 1, 0, none⟩) 0 0, fv good]) ?_ rfl ⟨⟨1, _, F0, rfl, (Own.kept (fun y hy => setRow_other _ _ _ _ (by have := (o1.range y hy).1; omega)) o1).lower (by omega), o2⟩, setRow_below HX.out (by omega) _⟩
    exact ret_vf rfl rfl rfl (setRow_at h3f)
  | true =>
    obtain ⟨p0, p1, p2, p3, p4, p5⟩ := Row6.of Hkid.out
    rw [Hw3.out] at p0 p1 p2 p3 p4 p5
    by_cases h4 : kk = 5
    case neg =>
      have hE : R = ([], (11, at_)) := HR.out.symm.trans ((if_neg (by decide)).trans (if_pos (by simpa [T.kind] using h4)))
      subst hE
      clear HR
      go_wp2_with (first | (refine wpList_store_row rfl 35 _ _ rfl w2.heap.size #[.int .i64 kk, .bool fl, .int .i64 n, .string s, .slice A1 ks.length c1, .slice A2 kids.length c2] rfl rfl 35 _ (heap_alloc_new w2 _) tree_size' rfl hz1 ?_; rw [World.setRow_alloc_new]) | fail)
      rw [← Hw3.out]
      refine (HP.out _).mono ?_
      rintro e w4 ⟨rfl, rfl⟩
      go_wp2_with fail
      refine (HF.out _ _ _).mono ?_
      rintro e w5 ⟨rfl, hb5⟩
      have h51 := heap_kept hb5 (heap_lt h3f) h3f
      have h52 := heap_kept hb5 (heap_lt h3e) h3e
      have Hb5 := Lib.hid (below_link HX.out hb5 HX.out.size)
      clear hb5
      go_wp2_with (first | (refine wpList_store_row rfl 31 _ _ rfl (w.heap.size + 1) #[.int .i64 11, .int .i64 0, .string at_] rfl rfl 31 _ h51 sizeFault rfl (by simp [Value.oneCell']) ?_) | fail)
      obtain ⟨F0, o1, o2⟩ := own_none6 (B := w.heap.size + 2) (by omega) h52
      refine bodyPost_ret (v := .tuple #[.slice (some ⟨w2.heap.size + 1, 0, none⟩) 0 0, fv (11, at_)]) ?_ rfl ⟨⟨1, _, F0, rfl, (Own.kept (fun y hy => setRow_other _ _ _ _ (by have := (o1.range y hy).1; omega)) o1).lower (by omega), o2⟩, setRow_below Hb5.out (by omega) _⟩
      exact ret_vf rfl rfl rfl (setRow_at h51)
    have hR2 := HR.out.symm.trans ((if_neg (by decide)).trans (if_neg (by simpa [T.kind] using h4)))
    subst h4
    clear HR
    have hm := Hm.out
    by_cases hmost : most < (kids.length : Int)
    case pos =>
      have hE : R = ([], (16, at_)) := hR2.trans (if_pos hmost)
      subst hE
      clear hR2
      go_wp2_with (first | (refine wpList_store_row rfl 35 _ _ rfl w2.heap.size #[.int .i64 kk, .bool fl, .int .i64 n, .string s, .slice A1 ks.length c1, .slice A2 kids.length c2] rfl rfl 35 _ (heap_alloc_new w2 _) tree_size' rfl hz1 ?_; rw [World.setRow_alloc_new]) | fail)
      rw [← Hw3.out]
      refine (HP.out _).mono ?_
      rintro e w4 ⟨rfl, rfl⟩
      go_wp2_with fail
      refine (HF.out _ _ _).mono ?_
      rintro e w5 ⟨rfl, hb5⟩
      have h51 := heap_kept hb5 (heap_lt h3f) h3f
      have h52 := heap_kept hb5 (heap_lt h3e) h3e
      have Hb5 := Lib.hid (below_link HX.out hb5 HX.out.size)
      clear hb5
      go_wp2_with (first | (refine wpList_store_row rfl 31 _ _ rfl (w.heap.size + 1) #[.int .i64 16, .int .i64 0, .string at_] rfl rfl 31 _ h51 sizeFault rfl (by simp [Value.oneCell']) ?_) | fail)
      obtain ⟨F0, o1, o2⟩ := own_none6 (B := w.heap.size + 2) (by omega) h52
      refine bodyPost_ret (v := .tuple #[.slice (some ⟨w2.heap.size + 1, 0, none⟩) 0 0, fv (16, at_)]) ?_ rfl ⟨⟨1, _, F0, rfl, (Own.kept (fun y hy => setRow_other _ _ _ _ (by have := (o1.range y hy).1; omega)) o1).lower (by omega), o2⟩, setRow_below Hb5.out (by omega) _⟩
      exact ret_vf rfl rfl rfl (setRow_at h51)
    case neg =>
      have hE : R = (kids, good) := hR2.trans (if_neg hmost)
      subst hE
      clear hR2
      go_wp2_with (first | (refine wpList_store_row rfl 35 _ _ rfl w2.heap.size #[.int .i64 5, .bool fl, .int .i64 n, .string s, .slice A1 ks.length c1, .slice A2 kids.length c2] rfl rfl 35 _ (heap_alloc_new w2 _) tree_size' rfl hz1 ?_; rw [World.setRow_alloc_new]) | (rw [← Hw3.out]; (refine wpList_store_row rfl 31 _ _ rfl (w.heap.size + 1) #[.int .i64 0, .int .i64 0, .string ⟨#[]⟩] rfl rfl 31 _ H31.out sizeFault rfl (by simp [Value.oneCell']) ?_)) | fail)
      obtain ⟨v1, v2, F1, F2, hv, _, _, _, _, o2, rfl, _, n2, _⟩ := owned_tree Ho.out hnd
      injection hv with _ hv; injection hv with _ hv; injection hv with _ hv; injection hv with _ hv; injection hv with _ hv; injection hv with hv _
      subst hv
      have o3 := o2.below Hb23.out
      refine bodyPost_ret (v := .tuple #[.slice A2 kids.length c2, fv good]) ?_ rfl ⟨⟨_, _, F2, rfl, (Own.kept (fun y hy => setRow_other _ _ _ _ (by have := (o2.range y hy).1; have := HS1.out; omega)) o3).lower (by have := HS1.out; omega), n2⟩, setRow_below Hb3.out (by omega) _⟩
      exact ret_vf rfl rfl rfl (setRow_at H31.out)
end Go.Proofs.YtangdmjdjiddcaaDoor.field
