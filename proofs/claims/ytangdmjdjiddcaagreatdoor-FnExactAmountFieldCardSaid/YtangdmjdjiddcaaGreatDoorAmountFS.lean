/- spec.AmountField. Printed by gen/gen_fields.py. -/
import Derived.Test.YtangdmjdjiddcaaGreatDoorGA5
import Derived.Test.YtangdmjdjiddcaaGreatDoorGA7
import Derived.Test.YtangdmjdjiddcaaGreatDoorGA2
import Derived.Test.YtangdmjdjiddcaaGreatDoorGA1
namespace Go.Proofs.YtangdmjdjiddcaaGreatDoor.field
open Go.ChangeShapes Go.WideShapes Go.ChangeAt Go.RowKit tree
set_option linter.unusedVariables false
set_option linter.unusedSimpArgs false

set_option maxRecDepth 100000 in
set_option maxHeartbeats 16000000 in
theorem spec_amount {f : Nat} (t : T) (p k : ByteArray) (vs : List Value) (w : World) (h : LiesS w f vs (row t)) (hw : weight t ≤ 1048576) (hp : p.size ≤ 1048576) (hk : k.size ≤ 1048576) :
    Calls Tryz.prog 11 #[.agg vs.toArray, .string p, .string k] w fun e w' => e = .returned (.tuple #[.int .i64 (amountF t p k).1, fv (amountF t p k).2]) ∧ Below w.heap.size w w' := by
  obtain ⟨u0, u1, u2, u3, u4, u5, rfl⟩ := six_of (h.1.trans (row_length t))
  obtain ⟨w1, hw1⟩ : ∃ w1, w1 = (w.alloc (.cells #[u0, u1, u2, u3, u4, u5] 27)).alloc (.cells #[.int .i64 0, .int .i64 0, .string ⟨#[]⟩] 31) := ⟨_, rfl⟩
  have hb1 : Below w.heap.size w w1 := by subst hw1; exact ((Below.refl _ _).alloc (Nat.le_refl _) _).alloc (by simp) _
  have h10 : w1.heap[w.heap.size]? = some (.cells #[u0, u1, u2, u3, u4, u5] 27 (0, 0)) := by
    subst hw1
    rw [Below.heap_alloc _ _ _ (by simp)]
    exact heap_alloc_new w _
  have h11 : w1.heap[w.heap.size + 1]? = some (.cells #[.int .i64 0, .int .i64 0, .string ⟨#[]⟩] 31 (0, 0)) := by
    subst hw1
    have h := heap_alloc_new (w.alloc (.cells #[u0, u1, u2, u3, u4, u5] 27)) (.cells #[.int .i64 0, .int .i64 0, .string ⟨#[]⟩] 31)
    simpa using h
  have HK := Lib.hid (spec_kid t k _ w1 (h.below hb1) hw)
  have HP := Lib.hid (fun w' => spec_key p k w' hp hk)
  have HF := Lib.hid (fun c q w' => spec_fault c q w')
  have H11 := Lib.hid h11
  have Hb1 := Lib.hid hb1
  have Hw1 := Lib.hid hw1
  obtain ⟨p0, p1, p2, p3, p4, p5⟩ := Row6.of h10
  rw [Hw1.out] at p0 p1 p2 p3 p4 p5
  obtain ⟨R, hR⟩ : ∃ R, amountF t p k = R := ⟨_, rfl⟩
  rw [hR]
  unfold amountF at hR
  obtain ⟨q, hq⟩ : ∃ q, kidOf t k = q := ⟨_, rfl⟩
  rw [hq] at HK hR
  obtain ⟨K, b⟩ := q
  obtain ⟨kk, fl, n, s, ks, kids⟩ := K
  generalize pathKey p k = at_ at HP hR
  have HR := Lib.hid hR
  clear h h10 h11 hb1 hw1 hR hq hp hk hw
  go_enter Tryz.func11, Tryz.ntmps11
  go_wp2_with fail
  rw [← Hw1.out]
  refine HK.out.mono ?_
  rintro e w2 ⟨⟨us, F, rfl, ho, hnd⟩, hb2⟩
  obtain ⟨f2, hl⟩ : ∃ f2, LiesS w2 f2 us (row (.mk kk fl n s ks kids)) := ⟨_, ho.lies⟩
  obtain ⟨A1, c1, A2, c2, rfl, wk, wn, ws, _, _, _, _, _, _, f', rfl, _⟩ := open_tree hl
  have Ws := Lib.hid ws
  have Wn := Lib.hid wn
  have h21 := heap_kept hb2 (heap_lt H11.out) H11.out
  have Hb2 := Lib.hid (below_link Hb1.out hb2 Hb1.out.size)
  have hz1 : (#[.int .i64 kk, .bool fl, .int .i64 n, .string s, .slice A1 ks.length c1, .slice A2 kids.length c2] : Array Value).all (·.oneCell') = true := by simp [Value.oneCell']
  obtain ⟨w3, hw3⟩ : ∃ w3, w3 = w2.alloc (.cells #[.int .i64 kk, .bool fl, .int .i64 n, .string s, .slice A1 ks.length c1, .slice A2 kids.length c2] 27) := ⟨_, rfl⟩
  have hb3 : Below w2.heap.size w2 w3 := by subst hw3; exact (Below.refl _ _).alloc (Nat.le_refl _) _
  have h31 := heap_kept hb3 (heap_lt h21) h21
  have hkid : w3.heap[w2.heap.size]? = some (.cells #[.int .i64 kk, .bool fl, .int .i64 n, .string s, .slice A1 ks.length c1, .slice A2 kids.length c2] 27 (0, 0)) := by subst hw3; exact heap_alloc_new w2 _
  have Hb3 := Lib.hid (below_link Hb2.out hb3 Hb2.out.size)
  have Hw3 := Lib.hid hw3
  have H31 := Lib.hid h31
  have Hkid := Lib.hid hkid
  have Ho := Lib.hid ho
  clear HK hb2 p0 p1 p2 p3 p4 p5 Hw1 ho hl h21 hb3 h31 hw3 H11 hkid
  cases b with
  | false =>
    have hE : R = (0, (12, at_)) := HR.out.symm.trans (if_pos rfl)
    subst hE
    clear HR
    go_wp2_with (first | (refine wpList_store_row rfl 27 _ _ rfl w2.heap.size #[.int .i64 kk, .bool fl, .int .i64 n, .string s, .slice A1 ks.length c1, .slice A2 kids.length c2] rfl rfl 27 _ (heap_alloc_new w2 _) tree_size' rfl hz1 ?_; rw [World.setRow_alloc_new]) | fail)
    rw [← Hw3.out]
    refine (HP.out _).mono ?_
    rintro e w4 ⟨rfl, rfl⟩
    go_wp2_with fail
    refine (HF.out _ _ _).mono ?_
    rintro e w5 ⟨rfl, hb5⟩
    have h51 := heap_kept hb5 (heap_lt H31.out) H31.out
    have Hb5 := Lib.hid (below_link Hb3.out hb5 Hb3.out.size)
    clear hb5
    go_wp2_with (first | (refine wpList_store_row rfl 31 _ _ rfl (w.heap.size + 1) #[.int .i64 12, .int .i64 0, .string at_] rfl rfl 31 _ h51 sizeFault rfl (by simp [Value.oneCell']) ?_) | fail)
    refine bodyPost_ret (v := .tuple #[.int .i64 0, fv (12, at_)]) ?_ rfl ⟨rfl, setRow_below Hb5.out (by omega) _⟩
    exact ret_vf rfl rfl rfl (setRow_at h51)
  | true =>
    obtain ⟨p0, p1, p2, p3, p4, p5⟩ := Row6.of Hkid.out
    rw [Hw3.out] at p0 p1 p2 p3 p4 p5
    have hR1 := HR.out.symm.trans (if_neg (by decide))
    clear HR
    simp only [T.kind, T.text, T.num] at hR1
    by_cases h4 : kk = 4
    case pos =>
      subst h4
      replace hR1 := hR1.trans (if_pos rfl)
      have HA := Lib.hid (fun w' => amount.spec_read s w' Ws.out)
      obtain ⟨rr, hrr⟩ : ∃ rr, amount.readF s = rr := ⟨_, rfl⟩
      rw [hrr] at HA hR1
      obtain ⟨y, code⟩ := rr
      unfold amtF at hR1
      simp only at hR1 HA
      clear hrr
      by_cases hc1 : code = 1
      case pos =>
        subst hc1
        have hE : R = (0, (14, at_)) := hR1.trans (if_pos rfl)
        subst hE
        clear hR1
        go_wp2_with (first | (refine wpList_store_row rfl 27 _ _ rfl w2.heap.size #[.int .i64 4, .bool fl, .int .i64 n, .string s, .slice A1 ks.length c1, .slice A2 kids.length c2] rfl rfl 27 _ (heap_alloc_new w2 _) tree_size' rfl hz1 ?_; rw [World.setRow_alloc_new]) | fail)
        rw [← Hw3.out]
        refine (HP.out _).mono ?_
        rintro e w4 ⟨rfl, rfl⟩
        clear p0 p1 p2 p3 p4 p5
        obtain ⟨p0, p1, p2, p3, p4, p5⟩ := Row6.of Hkid.out
        go_wp2_with fail
        refine (HA.out _).mono ?_
        rintro e w6 ⟨rfl, hb6⟩
        have h61 := heap_kept hb6 (heap_lt H31.out) H31.out
        have Hb6 := Lib.hid (below_link Hb3.out hb6 Hb3.out.size)
        clear hb6 p0 p1 p2 p3 p4 p5
        go_wp2_with fail
        refine (HF.out _ _ _).mono ?_
        rintro e w5 ⟨rfl, hb5⟩
        have h51 := heap_kept hb5 (heap_lt h61) h61
        have Hb5 := Lib.hid (below_link Hb6.out hb5 Hb6.out.size)
        clear hb5
        go_wp2_with (first | (refine wpList_store_row rfl 31 _ _ rfl (w.heap.size + 1) #[.int .i64 14, .int .i64 0, .string at_] rfl rfl 31 _ h51 sizeFault rfl (by simp [Value.oneCell']) ?_) | fail)
        refine bodyPost_ret (v := .tuple #[.int .i64 0, fv (14, at_)]) ?_ rfl ⟨rfl, setRow_below Hb5.out (by omega) _⟩
        exact ret_vf rfl rfl rfl (setRow_at h51)
      by_cases hc0 : code = 0
      case pos =>
        subst hc0
        have hE : R = (y, good) := hR1.trans ((if_neg (by decide)).trans (if_neg (by decide)))
        subst hE
        clear hR1
        go_wp2_with (first | (refine wpList_store_row rfl 27 _ _ rfl w2.heap.size #[.int .i64 4, .bool fl, .int .i64 n, .string s, .slice A1 ks.length c1, .slice A2 kids.length c2] rfl rfl 27 _ (heap_alloc_new w2 _) tree_size' rfl hz1 ?_; rw [World.setRow_alloc_new]) | fail)
        rw [← Hw3.out]
        refine (HP.out _).mono ?_
        rintro e w4 ⟨rfl, rfl⟩
        clear p0 p1 p2 p3 p4 p5
        obtain ⟨p0, p1, p2, p3, p4, p5⟩ := Row6.of Hkid.out
        go_wp2_with fail
        refine (HA.out _).mono ?_
        rintro e w6 ⟨rfl, hb6⟩
        have h61 := heap_kept hb6 (heap_lt H31.out) H31.out
        have Hb6 := Lib.hid (below_link Hb3.out hb6 Hb3.out.size)
        clear hb6 p0 p1 p2 p3 p4 p5
        go_wp2_with (first | (refine wpList_store_row rfl 31 _ _ rfl (w.heap.size + 1) #[.int .i64 0, .int .i64 0, .string ⟨#[]⟩] rfl rfl 31 _ h61 sizeFault rfl (by simp [Value.oneCell']) ?_) | fail)
        refine bodyPost_ret (v := .tuple #[.int .i64 y, fv good]) ?_ rfl ⟨rfl, setRow_below Hb6.out (by omega) _⟩
        exact ret_vf rfl rfl rfl (setRow_at h61)
      case neg =>
        have hE : R = (0, (15, at_)) := hR1.trans ((if_neg hc1).trans (if_pos hc0))
        subst hE
        clear hR1
        go_wp2_with (first | (refine wpList_store_row rfl 27 _ _ rfl w2.heap.size #[.int .i64 4, .bool fl, .int .i64 n, .string s, .slice A1 ks.length c1, .slice A2 kids.length c2] rfl rfl 27 _ (heap_alloc_new w2 _) tree_size' rfl hz1 ?_; rw [World.setRow_alloc_new]) | fail)
        rw [← Hw3.out]
        refine (HP.out _).mono ?_
        rintro e w4 ⟨rfl, rfl⟩
        clear p0 p1 p2 p3 p4 p5
        obtain ⟨p0, p1, p2, p3, p4, p5⟩ := Row6.of Hkid.out
        go_wp2_with fail
        refine (HA.out _).mono ?_
        rintro e w6 ⟨rfl, hb6⟩
        have h61 := heap_kept hb6 (heap_lt H31.out) H31.out
        have Hb6 := Lib.hid (below_link Hb3.out hb6 Hb3.out.size)
        clear hb6 p0 p1 p2 p3 p4 p5
        go_wp2_with fail
        refine (HF.out _ _ _).mono ?_
        rintro e w5 ⟨rfl, hb5⟩
        have h51 := heap_kept hb5 (heap_lt h61) h61
        have Hb5 := Lib.hid (below_link Hb6.out hb5 Hb6.out.size)
        clear hb5
        go_wp2_with (first | (refine wpList_store_row rfl 31 _ _ rfl (w.heap.size + 1) #[.int .i64 15, .int .i64 0, .string at_] rfl rfl 31 _ h51 sizeFault rfl (by simp [Value.oneCell']) ?_) | fail)
        refine bodyPost_ret (v := .tuple #[.int .i64 0, fv (15, at_)]) ?_ rfl ⟨rfl, setRow_below Hb5.out (by omega) _⟩
        exact ret_vf rfl rfl rfl (setRow_at h51)
    replace hR1 := hR1.trans (if_neg h4)
    by_cases h3 : kk = 3
    case pos =>
      subst h3
      replace hR1 := hR1.trans (if_pos rfl)
      unfold numF at hR1
      by_cases hneg : n < 0
      case pos =>
        have hE : R = (0, (14, at_)) := hR1.trans (if_pos hneg)
        subst hE
        clear hR1
        go_wp2_with (first | (refine wpList_store_row rfl 27 _ _ rfl w2.heap.size #[.int .i64 3, .bool fl, .int .i64 n, .string s, .slice A1 ks.length c1, .slice A2 kids.length c2] rfl rfl 27 _ (heap_alloc_new w2 _) tree_size' rfl hz1 ?_; rw [World.setRow_alloc_new]) | fail)
        rw [← Hw3.out]
        refine (HP.out _).mono ?_
        rintro e w4 ⟨rfl, rfl⟩
        clear p0 p1 p2 p3 p4 p5
        obtain ⟨p0, p1, p2, p3, p4, p5⟩ := Row6.of Hkid.out
        go_wp2_with fail
        refine (HF.out _ _ _).mono ?_
        rintro e w5 ⟨rfl, hb5⟩
        have h51 := heap_kept hb5 (heap_lt H31.out) H31.out
        have Hb5 := Lib.hid (below_link Hb3.out hb5 Hb3.out.size)
        clear hb5
        go_wp2_with (first | (refine wpList_store_row rfl 31 _ _ rfl (w.heap.size + 1) #[.int .i64 14, .int .i64 0, .string at_] rfl rfl 31 _ h51 sizeFault rfl (by simp [Value.oneCell']) ?_) | fail)
        refine bodyPost_ret (v := .tuple #[.int .i64 0, fv (14, at_)]) ?_ rfl ⟨rfl, setRow_below Hb5.out (by omega) _⟩
        exact ret_vf rfl rfl rfl (setRow_at h51)
      rw [if_neg hneg] at hR1
      have hwn := i64_bd Wn.out
      have HA := Lib.hid (fun w' => arith.spec_mul n 1000 w' hwn (by omega))
      obtain ⟨o, ho⟩ : ∃ o, arith.mulF n 1000 = o := ⟨_, rfl⟩
      rw [ho] at HA hR1
      clear ho
      cases o with
      | none =>
        have hE : R = (0, (15, at_)) := hR1
        subst hE
        clear hR1
        rw [arith.two_none] at HA
        go_wp2_with (first | (refine wpList_store_row rfl 27 _ _ rfl w2.heap.size #[.int .i64 3, .bool fl, .int .i64 n, .string s, .slice A1 ks.length c1, .slice A2 kids.length c2] rfl rfl 27 _ (heap_alloc_new w2 _) tree_size' rfl hz1 ?_; rw [World.setRow_alloc_new]) | fail)
        rw [← Hw3.out]
        refine (HP.out _).mono ?_
        rintro e w4 ⟨rfl, rfl⟩
        clear p0 p1 p2 p3 p4 p5
        obtain ⟨p0, p1, p2, p3, p4, p5⟩ := Row6.of Hkid.out
        go_wp2_with fail
        refine (HA.out _).mono ?_
        rintro e w6 ⟨rfl, rfl⟩
        go_wp2_with fail
        refine (HF.out _ _ _).mono ?_
        rintro e w5 ⟨rfl, hb5⟩
        have h51 := heap_kept hb5 (heap_lt H31.out) H31.out
        have Hb5 := Lib.hid (below_link Hb3.out hb5 Hb3.out.size)
        clear hb5
        go_wp2_with (first | (refine wpList_store_row rfl 31 _ _ rfl (w.heap.size + 1) #[.int .i64 15, .int .i64 0, .string at_] rfl rfl 31 _ h51 sizeFault rfl (by simp [Value.oneCell']) ?_) | fail)
        refine bodyPost_ret (v := .tuple #[.int .i64 0, fv (15, at_)]) ?_ rfl ⟨rfl, setRow_below Hb5.out (by omega) _⟩
        exact ret_vf rfl rfl rfl (setRow_at h51)
      | some y =>
        have hE : R = (y, good) := hR1
        subst hE
        clear hR1
        rw [arith.two_some] at HA
        go_wp2_with (first | (refine wpList_store_row rfl 27 _ _ rfl w2.heap.size #[.int .i64 3, .bool fl, .int .i64 n, .string s, .slice A1 ks.length c1, .slice A2 kids.length c2] rfl rfl 27 _ (heap_alloc_new w2 _) tree_size' rfl hz1 ?_; rw [World.setRow_alloc_new]) | fail)
        rw [← Hw3.out]
        refine (HP.out _).mono ?_
        rintro e w4 ⟨rfl, rfl⟩
        clear p0 p1 p2 p3 p4 p5
        obtain ⟨p0, p1, p2, p3, p4, p5⟩ := Row6.of Hkid.out
        go_wp2_with fail
        refine (HA.out _).mono ?_
        rintro e w6 ⟨rfl, rfl⟩
        go_wp2_with (first | (refine wpList_store_row rfl 31 _ _ rfl (w.heap.size + 1) #[.int .i64 0, .int .i64 0, .string ⟨#[]⟩] rfl rfl 31 _ H31.out sizeFault rfl (by simp [Value.oneCell']) ?_) | fail)
        refine bodyPost_ret (v := .tuple #[.int .i64 y, fv good]) ?_ rfl ⟨rfl, setRow_below Hb3.out (by omega) _⟩
        exact ret_vf rfl rfl rfl (setRow_at H31.out)
    case neg =>
      have hE : R = (0, (11, at_)) := hR1.trans (if_neg h3)
      subst hE
      clear hR1
      go_wp2_with (first | (refine wpList_store_row rfl 27 _ _ rfl w2.heap.size #[.int .i64 kk, .bool fl, .int .i64 n, .string s, .slice A1 ks.length c1, .slice A2 kids.length c2] rfl rfl 27 _ (heap_alloc_new w2 _) tree_size' rfl hz1 ?_; rw [World.setRow_alloc_new]) | fail)
      rw [← Hw3.out]
      refine (HP.out _).mono ?_
      rintro e w4 ⟨rfl, rfl⟩
      clear p0 p1 p2 p3 p4 p5
      obtain ⟨p0, p1, p2, p3, p4, p5⟩ := Row6.of Hkid.out
      go_wp2_with fail
      refine (HF.out _ _ _).mono ?_
      rintro e w5 ⟨rfl, hb5⟩
      have h51 := heap_kept hb5 (heap_lt H31.out) H31.out
      have Hb5 := Lib.hid (below_link Hb3.out hb5 Hb3.out.size)
      clear hb5
      go_wp2_with (first | (refine wpList_store_row rfl 31 _ _ rfl (w.heap.size + 1) #[.int .i64 11, .int .i64 0, .string at_] rfl rfl 31 _ h51 sizeFault rfl (by simp [Value.oneCell']) ?_) | fail)
      refine bodyPost_ret (v := .tuple #[.int .i64 0, fv (11, at_)]) ?_ rfl ⟨rfl, setRow_below Hb5.out (by omega) _⟩
      exact ret_vf rfl rfl rfl (setRow_at h51)
end Go.Proofs.YtangdmjdjiddcaaGreatDoor.field
