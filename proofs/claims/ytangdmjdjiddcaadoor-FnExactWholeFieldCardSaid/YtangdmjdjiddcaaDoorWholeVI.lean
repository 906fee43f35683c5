/- impl.wholeValue, the closure of impl.WholeField. Printed by gen/gen_ifields.py. -/
import Derived.Test.YtangdmjdjiddcaaDoorFieldN
import Derived.Test.YtangdmjdjiddcaaDoorGA4
import Derived.Test.YtangdmjdjiddcaaDoorGA3
import Derived.Test.YtangdmjdjiddcaaDoorRows
import Derived.ProofKit
import Derived.OpenShut
namespace Go.Proofs.YtangdmjdjiddcaaDoor.field
open Go.ChangeShapes Go.WideShapes Go.ChangeAt Go.RowKit tree
set_option linter.unusedVariables false
set_option linter.unusedSimpArgs false

set_option maxRecDepth 100000 in
set_option maxHeartbeats 16000000 in
theorem whole_value {f : Nat} (K : T) (lo hi : Int) (us : List Value) (w : World) (h : LiesS w f us (row K)) :
    Calls Tryd.prog 48 #[.agg us.toArray, .int .i64 lo, .int .i64 hi] w fun e w' => e = .returned (.tuple #[.int .i64 (wholeR lo hi K).1, .int .i64 (wholeR lo hi K).2]) ∧ Below w.heap.size w w' := by
  obtain ⟨kk, fl, n, s, ks, kids⟩ := K
  obtain ⟨A1, c1, A2, c2, rfl, wk, wn, ws, hc1, hc2, _, _, hc3, hc4, f', rfl, hkd⟩ := open_tree h
  obtain ⟨w1, hw1⟩ : ∃ w1, w1 = w.alloc (.cells #[.int .i64 kk, .bool fl, .int .i64 n, .string s, .slice A1 ks.length c1, .slice A2 kids.length c2] 35) := ⟨_, rfl⟩
  have hb1 : Below w.heap.size w w1 := by subst hw1; exact (Below.refl _ _).alloc (Nat.le_refl _) _
  have h10 : w1.heap[w.heap.size]? = some (.cells #[.int .i64 kk, .bool fl, .int .i64 n, .string s, .slice A1 ks.length c1, .slice A2 kids.length c2] 35 (0, 0)) := by subst hw1; exact heap_alloc_new w _
  have Hb1 := Lib.hid hb1
  have Hw1 := Lib.hid hw1
  obtain ⟨p0, p1, p2, p3, p4, p5⟩ := Row6.of h10
  rw [Hw1.out] at p0 p1 p2 p3 p4 p5
  obtain ⟨R, hR⟩ : ∃ R, wholeR lo hi (.mk kk fl n s ks kids) = R := ⟨_, rfl⟩
  rw [hR]
  unfold wholeR at hR
  simp only [T.kind, T.num] at hR
  have HR := Lib.hid hR
  clear h hb1 hw1 h10 hR hkd
  by_cases h3 : kk = 3
  case neg =>
    have hE : R = (0, 11) := HR.out.symm.trans (if_pos h3)
    subst hE
    have e3 : (kk != 3) = true := by simpa using h3
    clear HR
    go_enter Tryd.func48, Tryd.ntmps48
    go_wp2_with fail
    rw [← Hw1.out]
    go_ret2
    exact ⟨rfl, Hb1.out⟩
  subst h3
  have HR2 := Lib.hid (HR.out.symm.trans (if_neg (by decide)))
  clear HR
  by_cases hlo : n < lo
  · have hE : R = (0, 15) := HR2.out.trans (if_pos (.inl hlo))
    subst hE
    clear HR2
    go_enter Tryd.func48, Tryd.ntmps48
    go_wp2_with fail
    rw [← Hw1.out]
    go_ret2
    exact ⟨rfl, Hb1.out⟩
  by_cases hhi : hi < n
  · have hE : R = (0, 15) := HR2.out.trans (if_pos (.inr hhi))
    subst hE
    clear HR2
    go_enter Tryd.func48, Tryd.ntmps48
    go_wp2_with fail
    rw [← Hw1.out]
    go_ret2
    exact ⟨rfl, Hb1.out⟩
  · have hE : R = (n, 0) := HR2.out.trans (if_neg (by omega))
    subst hE
    clear HR2
    go_enter Tryd.func48, Tryd.ntmps48
    go_wp2_with fail
    rw [← Hw1.out]
    go_ret2
    exact ⟨rfl, Hb1.out⟩
theorem whole_closure {f : Nat} (K : T) (lo hi : Int) (a b : Nat) (us : List Value) (w : World) (h : LiesS w f us (row K)) (ha : w.heap[a]? = some (.cells #[.int .i64 lo] 3 (0, 0))) (hb : w.heap[b]? = some (.cells #[.int .i64 hi] 3 (0, 0))) :
    Calls Tryd.prog 47 #[.agg us.toArray, .pointer (some ⟨a, 0, none⟩), .pointer (some ⟨b, 0, none⟩)] w fun e w' => e = .returned (.tuple #[.int .i64 (wholeR lo hi K).1, .int .i64 (wholeR lo hi K).2]) ∧ Below w.heap.size w w' := by
  obtain ⟨u0, u1, u2, u3, u4, u5, rfl⟩ := six_of (h.1.trans (row_length K))
  obtain ⟨w1, hw1⟩ : ∃ w1, w1 = w.alloc (.cells #[u0, u1, u2, u3, u4, u5] 35) := ⟨_, rfl⟩
  have hb1 : Below w.heap.size w w1 := by subst hw1; exact (Below.refl _ _).alloc (Nat.le_refl _) _
  have h10 : w1.heap[w.heap.size]? = some (.cells #[u0, u1, u2, u3, u4, u5] 35 (0, 0)) := by subst hw1; exact heap_alloc_new w _
  have ca : w1.cell? ⟨a, 0, none⟩ = some (.int .i64 lo) := by rw [cell_of_row w1 a 0 _ _ _ (heap_kept hb1 (heap_lt ha) ha)]; rfl
  have cb : w1.cell? ⟨b, 0, none⟩ = some (.int .i64 hi) := by rw [cell_of_row w1 b 0 _ _ _ (heap_kept hb1 (heap_lt hb) hb)]; rfl
  have HV := Lib.hid (whole_value K lo hi _ w1 (h.below hb1))
  have Hb1 := Lib.hid hb1
  have Hw1 := Lib.hid hw1
  obtain ⟨p0, p1, p2, p3, p4, p5⟩ := Row6.of h10
  rw [Hw1.out] at p0 p1 p2 p3 p4 p5 ca cb
  clear h hb1 hw1 h10 ha hb
  go_enter Tryd.func47, Tryd.ntmps47
  go_wp2_with fail
  rw [← Hw1.out]
  refine HV.out.mono ?_
  rintro e w2 ⟨rfl, hb2⟩
  have Hb2 := Lib.hid (below_link Hb1.out hb2 Hb1.out.size)
  clear hb2 HV p0 p1 p2 p3 p4 p5 ca cb
  go_wp2_with fail
  go_ret2
  exact ⟨rfl, Hb2.out⟩
end Go.Proofs.YtangdmjdjiddcaaDoor.field
