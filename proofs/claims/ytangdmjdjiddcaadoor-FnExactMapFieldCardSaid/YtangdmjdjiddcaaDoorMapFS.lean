/- spec.MapField. Printed by gen/gen_fields.py. -/
import Derived.Test.YtangdmjdjiddcaaDoorGA4
import Derived.Test.YtangdmjdjiddcaaDoorFaultS
import Derived.Test.YtangdmjdjiddcaaDoorGA6
namespace Go.Proofs.YtangdmjdjiddcaaDoor.field
open Go.ChangeShapes Go.WideShapes Go.ChangeAt Go.RowKit tree
set_option linter.unusedVariables false
set_option linter.unusedSimpArgs false

set_option maxRecDepth 100000 in
set_option maxHeartbeats 16000000 in
theorem spec_map {f : Nat} (t : T) (p k : ByteArray) (vs : List Value) (w : World) (h : LiesS w f vs (row t)) (hw : weight t ≤ 1048576) (hp : p.size ≤ 1048576) (hk : k.size ≤ 1048576) :
    Calls Tryd.prog 30 #[.agg vs.toArray, .string p, .string k] w fun e w' => TFOut w.heap.size (mapF t p k) e w' ∧ Below w.heap.size w w' := by
  obtain ⟨u0, u1, u2, u3, u4, u5, rfl⟩ := six_of (h.1.trans (row_length t))
  obtain ⟨w1, hw1⟩ : ∃ w1, w1 = ((w.alloc (.cells #[u0, u1, u2, u3, u4, u5] 35)).alloc (.cells #[.int .i64 0, .bool false, .int .i64 0, .string ⟨#[]⟩, .slice none 0 0, .slice none 0 0] 35)).alloc (.cells #[.int .i64 0, .int .i64 0, .string ⟨#[]⟩] 31) := ⟨_, rfl⟩
  have hb1 : Below w.heap.size w w1 := by subst hw1; exact (((Below.refl _ _).alloc (Nat.le_refl _) _).alloc (by simp) _).alloc (by simp; omega) _
  have h10 : w1.heap[w.heap.size]? = some (.cells #[u0, u1, u2, u3, u4, u5] 35 (0, 0)) := by
    subst hw1
    rw [Below.heap_alloc _ _ _ (by simp; omega), Below.heap_alloc _ _ _ (by simp)]
    exact heap_alloc_new w _
  have h11 : w1.heap[w.heap.size + 2]? = some (.cells #[.int .i64 0, .int .i64 0, .string ⟨#[]⟩] 31 (0, 0)) := by
    subst hw1
    have h := heap_alloc_new ((w.alloc (.cells #[u0, u1, u2, u3, u4, u5] 35)).alloc (.cells #[.int .i64 0, .bool false, .int .i64 0, .string ⟨#[]⟩, .slice none 0 0, .slice none 0 0] 35)) (.cells #[.int .i64 0, .int .i64 0, .string ⟨#[]⟩] 31)
    simpa using h
  have h12 : w1.heap[w.heap.size + 1]? = some (.cells #[.int .i64 0, .bool false, .int .i64 0, .string ⟨#[]⟩, .slice none 0 0, .slice none 0 0] 35 (0, 0)) := by
    subst hw1
    rw [Below.heap_alloc _ _ _ (by simp)]
    have h := heap_alloc_new (w.alloc (.cells #[u0, u1, u2, u3, u4, u5] 35)) (.cells #[.int .i64 0, .bool false, .int .i64 0, .string ⟨#[]⟩, .slice none 0 0, .slice none 0 0] 35)
    simpa using h
  have HK := Lib.hid (spec_kid t k _ w1 (h.below hb1) hw)
  have HP := Lib.hid (fun w' => spec_key p k w' hp hk)
  have HF := Lib.hid (fun c q w' => spec_fault c q w')
  have H11 := Lib.hid h11
  have Hb1 := Lib.hid hb1
  have Hw1 := Lib.hid hw1
  have H12 := Lib.hid h12
  have HS1 := Lib.hid (show w.heap.size + 2 < w1.heap.size by subst hw1; simp)
  clear h12
  obtain ⟨p0, p1, p2, p3, p4, p5⟩ := Row6.of h10
  rw [Hw1.out] at p0 p1 p2 p3 p4 p5
  obtain ⟨R, hR⟩ : ∃ R, mapF t p k = R := ⟨_, rfl⟩
  rw [hR]
  unfold mapF at hR
  obtain ⟨q, hq⟩ : ∃ q, kidOf t k = q := ⟨_, rfl⟩
  rw [hq] at HK hR
  obtain ⟨K, b⟩ := q
  obtain ⟨kk, fl, n, s, ks, kids⟩ := K
  generalize pathKey p k = at_ at HP hR
  have HR := Lib.hid hR
  clear h h10 h11 hb1 hw1 hR hq hp hk hw
  go_enter Tryd.func30, Tryd.ntmps30
  go_wp2_with fail
  rw [← Hw1.out]
  refine HK.out.mono ?_
  rintro e w2 ⟨⟨us, F, rfl, ho, hnd⟩, hb2⟩
  obtain ⟨f2, hl⟩ : ∃ f2, LiesS w2 f2 us (row (.mk kk fl n s ks kids)) := ⟨_, ho.lies⟩
  obtain ⟨A1, c1, A2, c2, rfl, wk, wn, ws, _, _, _, _, _, _, f', rfl, _⟩ := open_tree hl
  have h21 := heap_kept hb2 (heap_lt H11.out) H11.out
  have Hb2 := Lib.hid (below_link Hb1.out hb2 Hb1.out.size)
  have h22 := heap_kept hb2 (heap_lt H12.out) H12.out
  have hz1 : (#[.int .i64 kk, .bool fl, .int .i64 n, .string s, .slice A1 ks.length c1, .slice A2 kids.length c2] : Array Value).all (·.oneCell') = true := by simp [Value.oneCell']
  obtain ⟨w3, hw3⟩ : ∃ w3, w3 = w2.alloc (.cells #[.int .i64 kk, .bool fl, .int .i64 n, .string s, .slice A1 ks.length c1, .slice A2 kids.length c2] 35) := ⟨_, rfl⟩
  have hb3 : Below w2.heap.size w2 w3 := by subst hw3; exact (Below.refl _ _).alloc (Nat.le_refl _) _
  have h31 := heap_kept hb3 (heap_lt h21) h21
  have Hb23 := Lib.hid hb3
  have H32 := Lib.hid (heap_kept hb3 (heap_lt h22) h22)
  clear h22 H12
  have hkid : w3.heap[w2.heap.size]? = some (.cells #[.int .i64 kk, .bool fl, .int .i64 n, .string s, .slice A1 ks.length c1, .slice A2 kids.length c2] 35 (0, 0)) := by subst hw3; exact heap_alloc_new w2 _
  have Hb3 := Lib.hid (below_link Hb2.out hb3 Hb2.out.size)
  have Hw3 := Lib.hid hw3
  have H31 := Lib.hid h31
  have Hkid := Lib.hid hkid
  have Ho := Lib.hid ho
  clear HK hb2 p0 p1 p2 p3 p4 p5 Hw1 ho hl h21 hb3 h31 hw3 H11 hkid
  have hone0 : (#[.int .i64 0, .bool false, .int .i64 0, .string ⟨#[]⟩, .slice none 0 0, .slice none 0 0] : Array Value).all (·.oneCell') = true := by simp [Value.oneCell']
  cases b with
  | false =>
    have hE : R = (.mk 6 false 0 ⟨#[]⟩ [] [], good) := HR.out.symm.trans (if_pos rfl)
    subst hE
    clear HR
    have hone6 : (#[.int .i64 6, .bool false, .int .i64 0, .string ⟨#[]⟩, .slice none 0 0, .slice none 0 0] : Array Value).all (·.oneCell') = true := by simp [Value.oneCell']
    have hF2 := (setRow_other w3 (w.heap.size + 1) (w.heap.size + 2) #[.int .i64 6, .bool false, .int .i64 0, .string ⟨#[]⟩, .slice none 0 0, .slice none 0 0] (by omega)).trans H31.out
    go_wp2_with (first | (refine wpList_store_row rfl 35 _ _ rfl w2.heap.size #[.int .i64 kk, .bool fl, .int .i64 n, .string s, .slice A1 ks.length c1, .slice A2 kids.length c2] rfl rfl 35 _ (heap_alloc_new w2 _) tree_size' rfl hz1 ?_; rw [World.setRow_alloc_new]) | (rw [← Hw3.out]; (refine wpList_store_row rfl 35 _ _ rfl (w.heap.size + 1) #[.int .i64 6, .bool false, .int .i64 0, .string ⟨#[]⟩, .slice none 0 0, .slice none 0 0] rfl rfl 35 _ H32.out tree_size' rfl hone6 ?_)) | (refine wpList_store_row rfl 31 _ _ rfl (w.heap.size + 2) #[.int .i64 0, .int .i64 0, .string ⟨#[]⟩] rfl rfl 31 _ hF2 sizeFault rfl (by simp [Value.oneCell']) ?_) | fail)
    refine bodyPost_ret (v := .tuple #[.agg #[.int .i64 6, .bool false, .int .i64 0, .string ⟨#[]⟩, .slice none 0 0, .slice none 0 0], fv (0, ⟨#[]⟩)]) ?_ rfl ⟨⟨_, _, [], rfl, own_leaf 0 (wf_small (by decide) (by decide)) (wf_small (by decide) (by decide)) (by decide), List.nodup_nil⟩, setRow_below (setRow_below Hb3.out (by omega) _) (by omega) _⟩
    exact ret_cf rfl rfl ((setRow_other _ _ _ _ (by omega)).trans (setRow_at H32.out)) rfl rfl (setRow_at hF2)
  | true =>
    obtain ⟨p0, p1, p2, p3, p4, p5⟩ := Row6.of Hkid.out
    rw [Hw3.out] at p0 p1 p2 p3 p4 p5
    by_cases h4 : kk = 6
    case pos =>
      have hE : R = (.mk kk fl n s ks kids, good) := HR.out.symm.trans ((if_neg (by decide)).trans (if_neg (by simpa [T.kind] using h4)))
      subst hE h4
      clear HR
      have hF2 := (setRow_other w3 (w.heap.size + 1) (w.heap.size + 2) #[.int .i64 6, .bool fl, .int .i64 n, .string s, .slice A1 ks.length c1, .slice A2 kids.length c2] (by omega)).trans H31.out
      go_wp2_with (first | (refine wpList_store_row rfl 35 _ _ rfl w2.heap.size #[.int .i64 6, .bool fl, .int .i64 n, .string s, .slice A1 ks.length c1, .slice A2 kids.length c2] rfl rfl 35 _ (heap_alloc_new w2 _) tree_size' rfl hz1 ?_; rw [World.setRow_alloc_new]) | (rw [← Hw3.out]; (refine wpList_store_row rfl 35 _ _ rfl (w.heap.size + 1) #[.int .i64 6, .bool fl, .int .i64 n, .string s, .slice A1 ks.length c1, .slice A2 kids.length c2] rfl rfl 35 _ H32.out tree_size' rfl hz1 ?_)) | (refine wpList_store_row rfl 31 _ _ rfl (w.heap.size + 2) #[.int .i64 0, .int .i64 0, .string ⟨#[]⟩] rfl rfl 31 _ hF2 sizeFault rfl (by simp [Value.oneCell']) ?_) | fail)
      have hsz := HS1.out
      have ho3 := Ho.out.below Hb23.out
      have hfar : ∀ y ∈ F, y ≠ w.heap.size + 1 ∧ y ≠ w.heap.size + 2 := fun y hy => by have := (Ho.out.range y hy).1; omega
      refine bodyPost_ret (v := .tuple #[.agg #[.int .i64 6, .bool fl, .int .i64 n, .string s, .slice A1 ks.length c1, .slice A2 kids.length c2], fv (0, ⟨#[]⟩)]) ?_ rfl ⟨⟨_, _, F, rfl, ((OwnS.kept (fun y hy => (setRow_other _ _ _ _ (hfar y hy).2).trans (setRow_other _ _ _ _ (hfar y hy).1)) ho3).lower (by omega)), hnd⟩, setRow_below (setRow_below Hb3.out (by omega) _) (by omega) _⟩
      exact ret_cf rfl rfl ((setRow_other _ _ _ _ (by omega)).trans (setRow_at H32.out)) rfl rfl (setRow_at hF2)
    case neg =>
      have hE : R = (zero, (11, at_)) := HR.out.symm.trans ((if_neg (by decide)).trans (if_pos (by simpa [T.kind] using h4)))
      subst hE
      clear HR
      go_wp2_with (first | (refine wpList_store_row rfl 35 _ _ rfl w2.heap.size #[.int .i64 kk, .bool fl, .int .i64 n, .string s, .slice A1 ks.length c1, .slice A2 kids.length c2] rfl rfl 35 _ (heap_alloc_new w2 _) tree_size' rfl hz1 ?_; rw [World.setRow_alloc_new]) | fail)
      rw [← Hw3.out]
      refine (HP.out _).mono ?_
      rintro e w4 ⟨rfl, rfl⟩
      go_wp2_with fail
      refine (HF.out _ _ _).mono ?_
      rintro e w5 ⟨rfl, hb5⟩
      have h51 := heap_kept hb5 (heap_lt H31.out) H31.out
      have h52 := heap_kept hb5 (heap_lt H32.out) H32.out
      have Hb5 := Lib.hid (below_link Hb3.out hb5 Hb3.out.size)
      clear hb5
      have hF2 := (setRow_other w5 (w.heap.size + 1) (w.heap.size + 2) #[.int .i64 0, .bool false, .int .i64 0, .string ⟨#[]⟩, .slice none 0 0, .slice none 0 0] (by omega)).trans h51
      go_wp2_with (first | (refine wpList_store_row rfl 35 _ _ rfl (w.heap.size + 1) #[.int .i64 0, .bool false, .int .i64 0, .string ⟨#[]⟩, .slice none 0 0, .slice none 0 0] rfl rfl 35 _ h52 tree_size' rfl hone0 ?_) | (refine wpList_store_row rfl 31 _ _ rfl (w.heap.size + 2) #[.int .i64 11, .int .i64 0, .string at_] rfl rfl 31 _ hF2 sizeFault rfl (by simp [Value.oneCell']) ?_) | fail)
      refine bodyPost_ret (v := .tuple #[.agg #[.int .i64 0, .bool false, .int .i64 0, .string ⟨#[]⟩, .slice none 0 0, .slice none 0 0], fv (11, at_)]) ?_ rfl ⟨⟨_, _, [], rfl, own_zero 0, List.nodup_nil⟩, setRow_below (setRow_below Hb5.out (by omega) _) (by omega) _⟩
      exact ret_cf rfl rfl ((setRow_other _ _ _ _ (by omega)).trans (setRow_at h52)) rfl rfl (setRow_at hF2)
end Go.Proofs.YtangdmjdjiddcaaDoor.field
