/- impl.fieldIn[impl.Tree]. Printed by gen/gen_ifields.py. -/
import Derived.Test.YtangdmjdjiddcaaDoorFErrI
import Derived.Test.YtangdmjdjiddcaaDoorPathKeyI
import Derived.Test.YtangdmjdjiddcaaDoorKidAtI
import Derived.Test.YtangdmjdjiddcaaDoorMapVI
import Derived.StillTailTactics
namespace Go.Proofs.YtangdmjdjiddcaaDoor.field
open Go.ChangeShapes Go.WideShapes Go.ChangeAt Go.RowKit tree
set_option linter.unusedVariables false
set_option linter.unusedSimpArgs false

/-- A tree of the call's own and an error. -/
def MEOut (B : Nat) (r : T × Option Flt) (e : Ending) (w' : World) : Prop := ∃ f us F, e = .returned (.tuple #[.agg us.toArray, errV r.2]) ∧ OwnS w' B f us (row r.1) F ∧ F.Nodup
theorem errorAt_same (p : ByteArray) (c : Int) (w : World) :
    Calls Tryd.prog 64 #[.string p, .int .i64 c] w fun e w' => e = .returned (errV (some (c, p))) ∧ w' = w := by
  go_enter Tryd.func64, Tryd.ntmps64
  go_wp2_with fail
  go_ret
  exact ⟨rfl, rfl⟩
set_option maxRecDepth 100000 in
set_option maxHeartbeats 16000000 in
theorem map_fieldIn {f : Nat} (t : T) (p k : ByteArray) (vs : List Value) (w : World) (h : LiesS w f vs (row t)) (hp : p.size ≤ 1048576) (hk : k.size ≤ 1048576) (hwt : weight t ≤ 1048576) :
    Calls Tryd.prog 57 #[.agg vs.toArray, .string p, .string k, .func (.func 58) #[] #[]] w fun e w' => MEOut w.heap.size (inF zero mapR t p k) e w' ∧ Below w.heap.size w w' := by
  obtain ⟨u0, u1, u2, u3, u4, u5, rfl⟩ := six_of (h.1.trans (row_length t))
  obtain ⟨wa, hwa⟩ : ∃ x, x = w.alloc (.cells #[u0, u1, u2, u3, u4, u5] 35) := ⟨_, rfl⟩
  obtain ⟨wb, hwb⟩ : ∃ x, x = wa.alloc (.cells #[.int .i64 0, .bool false, .int .i64 0, .string ⟨#[]⟩, .slice none 0 0, .slice none 0 0] 35) := ⟨_, rfl⟩
  obtain ⟨w1, hw1⟩ : ∃ x, x = wb.alloc (.cells #[.int .i64 0, .bool false, .int .i64 0, .string ⟨#[]⟩, .slice none 0 0, .slice none 0 0] 35) := ⟨_, rfl⟩
  have sa : wa.heap.size = w.heap.size + 1 := by rw [hwa]; simp
  have sb : wb.heap.size = w.heap.size + 2 := by rw [hwb]; simp [sa]
  have ba : Below w.heap.size w wa := by subst hwa; exact (Below.refl _ _).alloc (Nat.le_refl _) _
  have bb : Below w.heap.size w wb := by subst hwb; exact ba.alloc (by omega) _
  have hb1 : Below w.heap.size w w1 := by subst hw1; exact bb.alloc (by omega) _
  have h10 : w1.heap[w.heap.size]? = some (.cells #[u0, u1, u2, u3, u4, u5] 35 (0, 0)) := by subst hw1; rw [Below.heap_alloc _ _ _ (by omega)]; subst hwb; rw [Below.heap_alloc _ _ _ (by omega)]; subst hwa; exact heap_alloc_new w _
  have h11 : w1.heap[w.heap.size + 1]? = some (.cells #[.int .i64 0, .bool false, .int .i64 0, .string ⟨#[]⟩, .slice none 0 0, .slice none 0 0] 35 (0, 0)) := by subst hw1; rw [Below.heap_alloc _ _ _ (by omega)]; subst hwb; rw [← sa]; exact heap_alloc_new wa _
  have h12 : w1.heap[w.heap.size + 2]? = some (.cells #[.int .i64 0, .bool false, .int .i64 0, .string ⟨#[]⟩, .slice none 0 0, .slice none 0 0] 35 (0, 0)) := by subst hw1; rw [← sb]; exact heap_alloc_new wb _
  have HK := Lib.hid (impl_kidAt t k _ w1 (h.below hb1))
  have HP := Lib.hid (fun w' => (impl_key p k w' hp hk).mono fun e w'' h => (show e = .returned (.string (pathKey p k)) ∧ w'' = w' from ⟨h.1, h.2.symm⟩))
  have HF := Lib.hid (fun q c w' => errorAt_same q c w')
  have hwk := kidOf_weight t k
  have Hwa := Lib.hid hwa
  have Hwb := Lib.hid hwb
  have Hb1 := Lib.hid hb1
  have Hw1 := Lib.hid hw1
  have H11 := Lib.hid h11
  have H12 := Lib.hid h12
  obtain ⟨p0, p1, p2, p3, p4, p5⟩ := Row6.of h10
  rw [Hw1.out, Hwb.out, Hwa.out] at p0 p1 p2 p3 p4 p5
  obtain ⟨R, hR⟩ : ∃ R, inF zero mapR t p k = R := ⟨_, rfl⟩
  rw [hR]
  unfold inF at hR
  obtain ⟨q, hq⟩ : ∃ q, kidOf t k = q := ⟨_, rfl⟩
  rw [hq] at HK hR hwk
  have Hwk := Lib.hid (show weight q.1 ≤ 1048576 by omega)
  obtain ⟨K, b⟩ := q
  generalize pathKey p k = at_ at HP hR
  have HR := Lib.hid hR
  have hz1 : (#[.int .i64 0, .bool false, .int .i64 0, .string ⟨#[]⟩, .slice none 0 0, .slice none 0 0] : Array Value).all (·.oneCell') = true := by simp [Value.oneCell']
  clear h h10 h11 h12 hb1 hw1 hwa hwb hR hq hp hk hwt hwk ba bb sa sb
  go_enter Tryd.func57, Tryd.ntmps57
  go_wp2_with fail
  rw [← Hwa.out, ← Hwb.out, ← Hw1.out]
  refine HK.out.mono ?_
  rintro e w2 ⟨⟨f2, us, _, rfl, hl⟩, hb2⟩
  obtain ⟨x0, x1, x2, x3, x4, x5, rfl⟩ := six_of (hl.1.trans (row_length _))
  have hone : (#[x0, x1, x2, x3, x4, x5] : Array Value).all (·.oneCell') = true := by simpa using LiesS.ones hl
  obtain ⟨w3, hw3⟩ : ∃ w3, w3 = w2.alloc (.cells #[x0, x1, x2, x3, x4, x5] 35) := ⟨_, rfl⟩
  have hb3 : Below w2.heap.size w2 w3 := by subst hw3; exact (Below.refl _ _).alloc (Nat.le_refl _) _
  have hkid : w3.heap[w2.heap.size]? = some (.cells #[x0, x1, x2, x3, x4, x5] 35 (0, 0)) := by subst hw3; exact heap_alloc_new w2 _
  have h21 := heap_kept hb2 (heap_lt H11.out) H11.out
  have h22 := heap_kept hb2 (heap_lt H12.out) H12.out
  have H31 := Lib.hid (heap_kept hb3 (heap_lt h21) h21)
  have H32 := Lib.hid (heap_kept hb3 (heap_lt h22) h22)
  have Hkid := Lib.hid hkid
  have Hb2 := Lib.hid (below_link Hb1.out hb2 Hb1.out.size)
  have Hb3 := Lib.hid (below_link Hb2.out hb3 Hb2.out.size)
  have Hl := Lib.hid (hl.below hb3)
  have Hw3 := Lib.hid hw3
  clear HK hb2 hb3 p0 p1 p2 p3 p4 p5 Hw1 hkid hl hw3 h21 h22 H11 H12
  cases b with
  | false =>
    have hE : R = (zero, some (12, at_)) := HR.out.symm.trans (if_pos rfl)
    subst hE
    clear HR
    go_wp2_with (first | (refine wpList_store_row rfl 35 _ _ rfl w2.heap.size #[x0, x1, x2, x3, x4, x5] rfl rfl 35 _ (heap_alloc_new w2 _) tree_size' rfl hone ?_; rw [World.setRow_alloc_new]) | fail)
    rw [← Hw3.out]
    obtain ⟨p0, p1, p2, p3, p4, p5⟩ := Row6.of H32.out
    go_still_tail 5, (by kernel_rfl)
    still_call (HP.out _)
    still_call (HF.out _ _ _)
    repeat still_step
    try refine wpStill_nil ?_
    change wpList _ _ _ _ _ w3.drew
    obtain ⟨w4, hw4⟩ : ∃ x, x = w3.drew := ⟨_, rfl⟩
    have hb4 : Below w3.heap.size w3 w4 := by rw [hw4]; exact (Below.refl _ _).drew
    rw [← hw4]
    have H41 := Lib.hid (heap_kept hb4 (heap_lt H31.out) H31.out)
    have Hb4 := Lib.hid (below_link Hb3.out hb4 Hb3.out.size)
    clear hw4 hb4 p0 p1 p2 p3 p4 p5
    go_wp2_with (first | (refine wpList_store_row rfl 35 _ _ rfl (w.heap.size + 1) #[.int .i64 0, .bool false, .int .i64 0, .string ⟨#[]⟩, .slice none 0 0, .slice none 0 0] rfl rfl 35 _ H41.out tree_size' rfl hz1 ?_) | fail)
    refine bodyPost_ret (v := .tuple #[.agg #[.int .i64 0, .bool false, .int .i64 0, .string ⟨#[]⟩, .slice none 0 0, .slice none 0 0], errV (some (12, at_))]) ?_ rfl ⟨⟨1, _, [], rfl, own_zero 0, List.nodup_nil⟩, setRow_below Hb4.out (by omega) _⟩
    exact ret_tree2 rfl rfl rfl rfl (setRow_at H41.out)
  | true =>
    have HV := Lib.hid (map_value K _ w3 Hl.out (by have := Hwk.out; exact this))
    have hR1 := HR.out.symm.trans (if_neg (by decide))
    obtain ⟨r, hr⟩ : ∃ r, mapR K = r := ⟨_, rfl⟩
    simp only [hr] at hR1
    rw [hr] at HV
    obtain ⟨rv, rc⟩ := r
    have HR1 := Lib.hid hR1
    clear HR hR1 hr
    obtain ⟨p0, p1, p2, p3, p4, p5⟩ := Row6.of Hkid.out
    rw [Hw3.out] at p0 p1 p2 p3 p4 p5
    go_wp2_with (first | (refine wpList_store_row rfl 35 _ _ rfl w2.heap.size #[x0, x1, x2, x3, x4, x5] rfl rfl 35 _ (heap_alloc_new w2 _) tree_size' rfl hone ?_; rw [World.setRow_alloc_new]) | fail)
    rw [← Hw3.out]
    refine HV.out.mono ?_
    rintro e w4 ⟨⟨fo, us, Fo, rfl, ho, hnd⟩, hb4⟩
    obtain ⟨y0, y1, y2, y3, y4, y5, rfl⟩ := six_of (ho.1.trans (row_length _))
    have hone2 := ho.one
    obtain ⟨w5, hw5⟩ : ∃ x, x = w4.alloc (.cells #[y0, y1, y2, y3, y4, y5] 35) := ⟨_, rfl⟩
    have hb5 : Below w4.heap.size w4 w5 := by subst hw5; exact (Below.refl _ _).alloc (Nat.le_refl _) _
    have h41 := heap_kept hb4 (heap_lt H31.out) H31.out
    have h42 := heap_kept hb4 (heap_lt H32.out) H32.out
    have H51 := Lib.hid (heap_kept hb5 (heap_lt h41) h41)
    have H52 := Lib.hid (heap_kept hb5 (heap_lt h42) h42)
    have Hres := Lib.hid (show w5.heap[w4.heap.size]? = some (.cells #[y0, y1, y2, y3, y4, y5] 35 (0, 0)) by subst hw5; exact heap_alloc_new w4 _)
    have Hb4 := Lib.hid (below_link Hb3.out hb4 Hb3.out.size)
    have Hb5 := Lib.hid (below_link Hb4.out hb5 Hb4.out.size)
    have Hfar := Lib.hid (show ∀ y ∈ Fo, y ≠ w.heap.size + 1 from fun y hy => by have h1 := (ho.range y hy).1; have h2 := heap_lt H31.out; omega)
    have Ho := Lib.hid ((ho.lower Hb3.out.size).below hb5)
    have Hw5 := Lib.hid hw5
    clear hb4 hb5 HV p0 p1 p2 p3 p4 p5 ho hw5 h41 h42 H31 H32
    by_cases h0 : rc = 0
    · subst h0
      have hE : R = (rv, none) := HR1.out.trans (if_neg (by simp))
      subst hE
      clear HR1
      obtain ⟨p0, p1, p2, p3, p4, p5⟩ := Row6.of Hres.out
      rw [Hw5.out] at p0 p1 p2 p3 p4 p5
      go_wp2_with (first | (refine wpList_store_row rfl 35 _ _ rfl w4.heap.size #[y0, y1, y2, y3, y4, y5] rfl rfl 35 _ (heap_alloc_new w4 _) tree_size' rfl hone2 ?_; rw [World.setRow_alloc_new]) | (rw [← Hw5.out]; refine wpList_store_row rfl 35 _ _ rfl (w.heap.size + 1) #[y0, y1, y2, y3, y4, y5] rfl rfl 35 _ H51.out tree_size' rfl hone2 ?_) | fail)
      refine bodyPost_ret (v := .tuple #[.agg #[y0, y1, y2, y3, y4, y5], errV none]) ?_ rfl ⟨⟨_, _, Fo, rfl, OwnS.kept (fun y hy => setRow_other _ _ _ _ (Hfar.out y hy)) Ho.out, hnd⟩, setRow_below Hb5.out (by omega) _⟩
      exact ret_tree2 rfl rfl rfl rfl (setRow_at H51.out)
    · have hE : R = (zero, some (rc, at_)) := HR1.out.trans (if_pos h0)
      subst hE
      have e0 : (rc != 0) = true := by simpa using h0
      clear HR1
      go_wp2_with (first | (refine wpList_store_row rfl 35 _ _ rfl w4.heap.size #[y0, y1, y2, y3, y4, y5] rfl rfl 35 _ (heap_alloc_new w4 _) tree_size' rfl hone2 ?_; rw [World.setRow_alloc_new]) | fail)
      rw [← Hw5.out]
      obtain ⟨p0, p1, p2, p3, p4, p5⟩ := Row6.of H52.out
      go_still_tail 6, (by kernel_rfl)
      still_call (HP.out _)
      repeat still_step
      still_call (HF.out _ _ _)
      repeat still_step
      try refine wpStill_nil ?_
      change wpList _ _ _ _ _ w5.drew
      obtain ⟨w6, hw6⟩ : ∃ x, x = w5.drew := ⟨_, rfl⟩
      have hb6 : Below w5.heap.size w5 w6 := by rw [hw6]; exact (Below.refl _ _).drew
      rw [← hw6]
      have H61 := Lib.hid (heap_kept hb6 (heap_lt H51.out) H51.out)
      have Hb6 := Lib.hid (below_link Hb5.out hb6 Hb5.out.size)
      clear hw6 hb6 p0 p1 p2 p3 p4 p5
      go_wp2_with (first | (refine wpList_store_row rfl 35 _ _ rfl (w.heap.size + 1) #[.int .i64 0, .bool false, .int .i64 0, .string ⟨#[]⟩, .slice none 0 0, .slice none 0 0] rfl rfl 35 _ H61.out tree_size' rfl hz1 ?_) | fail)
      refine bodyPost_ret (v := .tuple #[.agg #[.int .i64 0, .bool false, .int .i64 0, .string ⟨#[]⟩, .slice none 0 0, .slice none 0 0], errV (some (rc, at_))]) ?_ rfl ⟨⟨1, _, [], rfl, own_zero 0, List.nodup_nil⟩, setRow_below Hb6.out (by omega) _⟩
      exact ret_tree2 rfl rfl rfl rfl (setRow_at H61.out)
end Go.Proofs.YtangdmjdjiddcaaDoor.field
