/- impl.fieldIn[int] with amount_fieldIn. Printed by gen/gen_ifields.py. -/
import Derived.Test.YtangdmjdjiddcaaGreatDoorFErrI
import Derived.Test.YtangdmjdjiddcaaGreatDoorPathKeyI
import Derived.Test.YtangdmjdjiddcaaGreatDoorKidAtI
import Derived.Test.YtangdmjdjiddcaaGreatDoorAmtVI
namespace Go.Proofs.YtangdmjdjiddcaaGreatDoor.field
open Go.ChangeShapes Go.WideShapes Go.ChangeAt Go.RowKit tree
set_option linter.unusedVariables false
set_option linter.unusedSimpArgs false

set_option maxRecDepth 100000 in
set_option maxHeartbeats 16000000 in
theorem amount_fieldIn {f : Nat} (t : T) (p k : ByteArray) (vs : List Value) (w : World) (h : LiesS w f vs (row t)) (hp : p.size ≤ 1048576) (hk : k.size ≤ 1048576) (hPw : decimal.Pow w) (hRg : readnum.ErrVar w "strconv.ErrRange") (hSx : readnum.ErrVar w "strconv.ErrSyntax") :
    Calls Tryz.prog 25 #[.agg vs.toArray, .string p, .string k, .func (.func 29) #[] #[]] w fun e w' => e = .returned (.tuple #[.int .i64 (inF 0 (amountR) t p k).1, errV (inF 0 (amountR) t p k).2]) ∧ Below w.heap.size w w' := by
  obtain ⟨u0, u1, u2, u3, u4, u5, rfl⟩ := six_of (h.1.trans (row_length t))
  obtain ⟨w1, hw1⟩ : ∃ w1, w1 = w.alloc (.cells #[u0, u1, u2, u3, u4, u5] 27) := ⟨_, rfl⟩
  have hb1 : Below w.heap.size w w1 := by subst hw1; exact (Below.refl _ _).alloc (Nat.le_refl _) _
  have h10 : w1.heap[w.heap.size]? = some (.cells #[u0, u1, u2, u3, u4, u5] 27 (0, 0)) := by subst hw1; exact heap_alloc_new w _
  have HK := Lib.hid (impl_kidAt t k _ w1 (h.below hb1))
  have HP := Lib.hid (fun w' => impl_key p k w' hp hk)
  have HF := Lib.hid (fun q c w' => impl_errorAt q c w')
  have HPw := Lib.hid hPw
  have HRg := Lib.hid hRg
  have HSx := Lib.hid hSx
  have Hb1 := Lib.hid hb1
  have Hw1 := Lib.hid hw1
  obtain ⟨p0, p1, p2, p3, p4, p5⟩ := Row6.of h10
  rw [Hw1.out] at p0 p1 p2 p3 p4 p5
  obtain ⟨R, hR⟩ : ∃ R, inF 0 (amountR) t p k = R := ⟨_, rfl⟩
  rw [hR]
  unfold inF at hR
  obtain ⟨q, hq⟩ : ∃ q, kidOf t k = q := ⟨_, rfl⟩
  rw [hq] at HK hR
  obtain ⟨K, b⟩ := q
  generalize pathKey p k = at_ at HP hR
  have HR := Lib.hid hR
  clear h h10 hb1 hw1 hR hq hp hk hPw hRg hSx
  go_enter Tryz.func25, Tryz.ntmps25
  go_wp2_with fail
  rw [← Hw1.out]
  refine HK.out.mono ?_
  rintro e w2 ⟨⟨f2, us, _, rfl, hl⟩, hb2⟩
  obtain ⟨x0, x1, x2, x3, x4, x5, rfl⟩ := six_of (hl.1.trans (row_length _))
  have hone : (#[x0, x1, x2, x3, x4, x5] : Array Value).all (·.oneCell') = true := by simpa using LiesS.ones hl
  obtain ⟨w3, hw3⟩ : ∃ w3, w3 = w2.alloc (.cells #[x0, x1, x2, x3, x4, x5] 27) := ⟨_, rfl⟩
  have hb3 : Below w2.heap.size w2 w3 := by subst hw3; exact (Below.refl _ _).alloc (Nat.le_refl _) _
  have hkid : w3.heap[w2.heap.size]? = some (.cells #[x0, x1, x2, x3, x4, x5] 27 (0, 0)) := by subst hw3; exact heap_alloc_new w2 _
  have Hkid := Lib.hid hkid
  have Hb2 := Lib.hid (below_link Hb1.out hb2 Hb1.out.size)
  have Hb3 := Lib.hid (below_link Hb2.out hb3 Hb2.out.size)
  have Hl := Lib.hid (hl.below hb3)
  have Hw3 := Lib.hid hw3
  clear HK hb2 hb3 p0 p1 p2 p3 p4 p5 Hw1 hkid hl hw3
  cases b with
  | false =>
    have hE : R = (0, some (12, at_)) := HR.out.symm.trans (if_pos rfl)
    subst hE
    clear HR
    go_wp2_with (first | (refine wpList_store_row rfl 27 _ _ rfl w2.heap.size #[x0, x1, x2, x3, x4, x5] rfl rfl 27 _ (heap_alloc_new w2 _) tree_size' rfl hone ?_; rw [World.setRow_alloc_new]) | fail)
    rw [← Hw3.out]
    refine (HP.out _).mono ?_
    rintro e w4 ⟨rfl, rfl⟩
    go_wp2_with fail
    refine (HF.out _ _ _).mono ?_
    rintro e w5 ⟨rfl, hb5⟩
    have Hb5 := Lib.hid (below_link Hb3.out hb5 Hb3.out.size)
    clear hb5
    go_wp2_with fail
    go_ret2
    exact ⟨rfl, Hb5.out⟩
  | true =>
    have HV := Lib.hid (amount_value K _ w3 Hl.out (HPw.out.below Hb3.out) (HRg.out.below Hb3.out) (HSx.out.below Hb3.out))
    have hR1 := HR.out.symm.trans (if_neg (by decide))
    obtain ⟨r, hr⟩ : ∃ r, (amountR) K = r := ⟨_, rfl⟩
    simp only [hr] at hR1
    rw [hr] at HV
    obtain ⟨rv, rc⟩ := r
    have HR1 := Lib.hid hR1
    clear HR hR1 hr
    obtain ⟨p0, p1, p2, p3, p4, p5⟩ := Row6.of Hkid.out
    rw [Hw3.out] at p0 p1 p2 p3 p4 p5
    go_wp2_with (first | (refine wpList_store_row rfl 27 _ _ rfl w2.heap.size #[x0, x1, x2, x3, x4, x5] rfl rfl 27 _ (heap_alloc_new w2 _) tree_size' rfl hone ?_; rw [World.setRow_alloc_new]) | fail)
    rw [← Hw3.out]
    refine HV.out.mono ?_
    rintro e w4 ⟨rfl, hb4⟩
    have Hb4 := Lib.hid (below_link Hb3.out hb4 Hb3.out.size)
    clear hb4 HV p0 p1 p2 p3 p4 p5
    by_cases h0 : rc = 0
    · subst h0
      have hE : R = (rv, none) := HR1.out.trans (if_neg (by simp))
      subst hE
      clear HR1
      go_wp2_with fail
      go_ret2
      exact ⟨rfl, Hb4.out⟩
    · have hE : R = (0, some (rc, at_)) := HR1.out.trans (if_pos h0)
      subst hE
      have e0 : (rc != 0) = true := by simpa using h0
      clear HR1
      go_wp2_with fail
      refine (HP.out _).mono ?_
      rintro e w5 ⟨rfl, rfl⟩
      go_wp2_with fail
      refine (HF.out _ _ _).mono ?_
      rintro e w6 ⟨rfl, hb6⟩
      have Hb6 := Lib.hid (below_link Hb4.out hb6 Hb4.out.size)
      clear hb6
      go_wp2_with fail
      go_ret2
      exact ⟨rfl, Hb6.out⟩
end Go.Proofs.YtangdmjdjiddcaaGreatDoor.field
