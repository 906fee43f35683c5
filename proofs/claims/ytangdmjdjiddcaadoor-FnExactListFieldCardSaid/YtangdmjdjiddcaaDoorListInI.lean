/- impl.fieldIn[[]loop.example/g00968/impl.Tree] with list_fieldIn. Printed by gen/gen_ifields.py. -/
import Derived.Test.YtangdmjdjiddcaaDoorFErrI
import Derived.Test.YtangdmjdjiddcaaDoorPathKeyI
import Derived.Test.YtangdmjdjiddcaaDoorKidAtI
import Derived.Test.YtangdmjdjiddcaaDoorListVI
namespace Go.Proofs.YtangdmjdjiddcaaDoor.field
open Go.ChangeShapes Go.WideShapes Go.ChangeAt Go.RowKit tree
set_option linter.unusedVariables false
set_option linter.unusedSimpArgs false

/-- A list of trees of the call's own and an error. -/
def LEOut (B : Nat) (r : List T × Option Flt) (e : Ending) (w' : World) : Prop := ∃ f v F, e = .returned (.tuple #[v, errV r.2]) ∧ Own w' B f v (.sl 6 r.1.length (rows r.1)) F ∧ F.Nodup
set_option maxRecDepth 100000 in
set_option maxHeartbeats 16000000 in
theorem list_fieldIn {f : Nat} (t : T) (p k : ByteArray) (most : Int) (ga : Nat) (vs : List Value) (w : World) (h : LiesS w f vs (row t)) (hp : p.size ≤ 1048576) (hk : k.size ≤ 1048576) (hwt : weight t ≤ 1048576) (hga : w.heap[ga]? = some (.cells #[.int .i64 most] 3 (0, 0))) :
    Calls Tryd.prog 50 #[.agg vs.toArray, .string p, .string k, .func (.func 51) #[] #[.pointer (some ⟨ga, 0, none⟩)]] w fun e w' => LEOut w.heap.size (inF [] (listR most) t p k) e w' ∧ Below w.heap.size w w' := by
  obtain ⟨u0, u1, u2, u3, u4, u5, rfl⟩ := six_of (h.1.trans (row_length t))
  obtain ⟨w1, hw1⟩ : ∃ w1, w1 = w.alloc (.cells #[u0, u1, u2, u3, u4, u5] 35) := ⟨_, rfl⟩
  have hb1 : Below w.heap.size w w1 := by subst hw1; exact (Below.refl _ _).alloc (Nat.le_refl _) _
  have h10 : w1.heap[w.heap.size]? = some (.cells #[u0, u1, u2, u3, u4, u5] 35 (0, 0)) := by subst hw1; exact heap_alloc_new w _
  have HK := Lib.hid (impl_kidAt t k _ w1 (h.below hb1))
  have HP := Lib.hid (fun w' => impl_key p k w' hp hk)
  have HF := Lib.hid (fun q c w' => impl_errorAt q c w')
  have Hga := Lib.hid hga
  have hwk := kidOf_weight t k
  have Hb1 := Lib.hid hb1
  have Hw1 := Lib.hid hw1
  obtain ⟨p0, p1, p2, p3, p4, p5⟩ := Row6.of h10
  rw [Hw1.out] at p0 p1 p2 p3 p4 p5
  obtain ⟨R, hR⟩ : ∃ R, inF [] (listR most) t p k = R := ⟨_, rfl⟩
  rw [hR]
  unfold inF at hR
  obtain ⟨q, hq⟩ : ∃ q, kidOf t k = q := ⟨_, rfl⟩
  rw [hq] at HK hR hwk
  have Hwk := Lib.hid (show weight q.1 ≤ 1048576 by omega)
  obtain ⟨K, b⟩ := q
  generalize pathKey p k = at_ at HP hR
  have HR := Lib.hid hR
  clear h h10 hb1 hw1 hR hq hp hk hga hwt hwk
  go_enter Tryd.func50, Tryd.ntmps50
  go_wp2_with fail
  rw [← Hw1.out]
  refine HK.out.mono ?_
  rintro e w2 ⟨⟨f2, us, _, rfl, hl⟩, hb2⟩
  obtain ⟨x0, x1, x2, x3, x4, x5, rfl⟩ := six_of (hl.1.trans (row_length _))
  have hone : (#[x0, x1, x2, x3, x4, x5] : Array Value).all (·.oneCell') = true := by simpa using LiesS.ones hl
  obtain ⟨w3, hw3⟩ : ∃ w3, w3 = w2.alloc (.cells #[x0, x1, x2, x3, x4, x5] 35) := ⟨_, rfl⟩
  have hb3 : Below w2.heap.size w2 w3 := by subst hw3; exact (Below.refl _ _).alloc (Nat.le_refl _) _
  have hkid : w3.heap[w2.heap.size]? = some (.cells #[x0, x1, x2, x3, x4, x5] 35 (0, 0)) := by subst hw3; exact heap_alloc_new w2 _
  have Hkid := Lib.hid hkid
  have Hb2 := Lib.hid (below_link Hb1.out hb2 Hb1.out.size)
  have Hb3 := Lib.hid (below_link Hb2.out hb3 Hb2.out.size)
  have Hl := Lib.hid (hl.below hb3)
  have Hw3 := Lib.hid hw3
  clear HK hb2 hb3 p0 p1 p2 p3 p4 p5 Hw1 hkid hl hw3
  cases b with
  | false =>
    have hE : R = ([], some (12, at_)) := HR.out.symm.trans (if_pos rfl)
    subst hE
    clear HR
    go_wp2_with (first | (refine wpList_store_row rfl 35 _ _ rfl w2.heap.size #[x0, x1, x2, x3, x4, x5] rfl rfl 35 _ (heap_alloc_new w2 _) tree_size' rfl hone ?_; rw [World.setRow_alloc_new]) | fail)
    rw [← Hw3.out]
    refine (HP.out _).mono ?_
    rintro e w4 ⟨rfl, rfl⟩
    go_wp2_with fail
    refine (HF.out _ _ _).mono ?_
    rintro e w5 ⟨rfl, hb5⟩
    have Hb5 := Lib.hid (below_link Hb3.out hb5 Hb3.out.size)
    clear hb5
    go_wp2_with fail
    go_ret2
    exact ⟨⟨1, _, [], rfl, own_nil _ _ 0 6, List.nodup_nil⟩, Hb5.out⟩
  | true =>
    have HV := Lib.hid (list_closure K most ga _ w3 Hl.out (by have := Hwk.out; exact this) (heap_kept Hb3.out (heap_lt Hga.out) Hga.out))
    have hR1 := HR.out.symm.trans (if_neg (by decide))
    obtain ⟨r, hr⟩ : ∃ r, (listR most) K = r := ⟨_, rfl⟩
    simp only [hr] at hR1
    rw [hr] at HV
    obtain ⟨rv, rc⟩ := r
    have HR1 := Lib.hid hR1
    clear HR hR1 hr
    obtain ⟨p0, p1, p2, p3, p4, p5⟩ := Row6.of Hkid.out
    rw [Hw3.out] at p0 p1 p2 p3 p4 p5
    go_wp2_with (first | (refine wpList_store_row rfl 35 _ _ rfl w2.heap.size #[x0, x1, x2, x3, x4, x5] rfl rfl 35 _ (heap_alloc_new w2 _) tree_size' rfl hone ?_; rw [World.setRow_alloc_new]) | fail)
    rw [← Hw3.out]
    refine HV.out.mono ?_
    rintro e w4 ⟨⟨fo, v, Fo, rfl, ho, hnd⟩, hb4⟩
    have Hb4 := Lib.hid (below_link Hb3.out hb4 Hb3.out.size)
    have Ho := Lib.hid (ho.lower Hb3.out.size)
    clear hb4 HV ho p0 p1 p2 p3 p4 p5
    by_cases h0 : rc = 0
    · subst h0
      have hE : R = (rv, none) := HR1.out.trans (if_neg (by simp))
      subst hE
      clear HR1
      go_wp2_with fail
      go_ret2
      exact ⟨⟨_, _, Fo, rfl, Ho.out, hnd⟩, Hb4.out⟩
    · have hE : R = ([], some (rc, at_)) := HR1.out.trans (if_pos h0)
      subst hE
      have e0 : (rc != 0) = true := by simpa using h0
      clear HR1
      go_wp2_with fail
      refine (HP.out _).mono ?_
      rintro e w5 ⟨rfl, rfl⟩
      go_wp2_with fail
      refine (HF.out _ _ _).mono ?_
      rintro e w6 ⟨rfl, hb6⟩
      have Hb6 := Lib.hid (below_link Hb4.out hb6 Hb4.out.size)
      clear hb6
      go_wp2_with fail
      go_ret2
      exact ⟨⟨1, _, [], rfl, own_nil _ _ 0 6, List.nodup_nil⟩, Hb6.out⟩
end Go.Proofs.YtangdmjdjiddcaaDoor.field
