/- impl.listValue, the closure of impl.ListField. Printed by gen/gen_ifields.py. -/
import Derived.Test.YtangdmjdjiddcaaDoorFieldN
import Derived.Test.YtangdmjdjiddcaaDoorTrListI
import Derived.Test.YtangdmjdjiddcaaDoorGA3
import Derived.Test.YtangdmjdjiddcaaDoorRows
import Derived.ProofKit
import Derived.OpenShut
namespace Go.Proofs.YtangdmjdjiddcaaDoor.field
open Go.ChangeShapes Go.WideShapes Go.ChangeAt Go.RowKit tree
set_option linter.unusedVariables false
set_option linter.unusedSimpArgs false

/-- A list of trees of the call's own, and a code. -/
def LVOut (B : Nat) (r : List T × Int) (e : Ending) (w' : World) : Prop := ∃ f v F, e = .returned (.tuple #[v, .int .i64 r.2]) ∧ Own w' B f v (.sl 6 r.1.length (rows r.1)) F ∧ F.Nodup
theorem own_six {w : World} {B f : Nat} {u0 u1 u2 u3 u4 u5 : Value} {d0 d1 d2 d3 d4 d5 : C} {F : List Nat} (h : OwnS w B f [u0, u1, u2, u3, u4, u5] [d0, d1, d2, d3, d4, d5] F) (hnd : F.Nodup) : ∃ G, Own w B f u5 d5 G ∧ G.Nodup := by
  obtain ⟨v, vs, G0, F0, e, rfl, _, h⟩ := h.uncons
  injection e with _ e
  subst e
  obtain ⟨v, vs, G1, F1, e, rfl, _, h⟩ := h.uncons
  injection e with _ e
  subst e
  obtain ⟨v, vs, G2, F2, e, rfl, _, h⟩ := h.uncons
  injection e with _ e
  subst e
  obtain ⟨v, vs, G3, F3, e, rfl, _, h⟩ := h.uncons
  injection e with _ e
  subst e
  obtain ⟨v, vs, G4, F4, e, rfl, _, h⟩ := h.uncons
  injection e with _ e
  subst e
  obtain ⟨v, vs, G5, F5, e, rfl, h5, h⟩ := h.uncons
  injection e with e _
  subst e
  refine ⟨G5, h5, ?_⟩
  have n0 := (List.nodup_append.1 hnd).2.1
  have n1 := (List.nodup_append.1 n0).2.1
  have n2 := (List.nodup_append.1 n1).2.1
  have n3 := (List.nodup_append.1 n2).2.1
  have n4 := (List.nodup_append.1 n3).2.1
  exact (List.nodup_append.1 n4).1

theorem run_field5 (x0 x1 x2 x3 x4 x5 : Value) (w : World) : (Instr.field 35 (.agg #[x0, x1, x2, x3, x4, x5]) 5).run Tryd.prog w = .ok x5 w := by kernel_rfl
set_option maxRecDepth 100000 in
set_option maxHeartbeats 16000000 in
theorem list_value {f : Nat} (K : T) (most : Int) (us : List Value) (w : World) (h : LiesS w f us (row K)) (hwK : weight K ≤ 1048576) :
    Calls Tryd.prog 52 #[.agg us.toArray, .int .i64 most] w fun e w' => LVOut w.heap.size (listR most K) e w' ∧ Below w.heap.size w w' := by
  obtain ⟨kk, fl, n, s, ks, kids⟩ := K
  have hlies := h
  obtain ⟨A1, c1, A2, c2, rfl, wk, wn, ws, hc1, hc2, _, _, hc3, hc4, f', rfl, hkd⟩ := open_tree h
  have hl5 := h.2 5 _ _ rfl rfl
  obtain ⟨w1, hw1⟩ : ∃ w1, w1 = w.alloc (.cells #[.int .i64 kk, .bool fl, .int .i64 n, .string s, .slice A1 ks.length c1, .slice A2 kids.length c2] 35) := ⟨_, rfl⟩
  have hb1 : Below w.heap.size w w1 := by subst hw1; exact (Below.refl _ _).alloc (Nat.le_refl _) _
  have h10 : w1.heap[w.heap.size]? = some (.cells #[.int .i64 kk, .bool fl, .int .i64 n, .string s, .slice A1 ks.length c1, .slice A2 kids.length c2] 35 (0, 0)) := by subst hw1; exact heap_alloc_new w _
  have HL := Lib.hid (impl_list kids A2 c2 w1 (hl5.below hb1) (by rw [weight] at hwK; omega))
  have Hb1 := Lib.hid hb1
  have Hw1 := Lib.hid hw1
  have Hmax := Lib.hid (show kids.length ≤ 9223372036854775807 by unfold maxLen at hc4; omega)
  obtain ⟨p0, p1, p2, p3, p4, p5⟩ := Row6.of h10
  rw [Hw1.out] at p0 p1 p2 p3 p4 p5
  obtain ⟨R, hR⟩ : ∃ R, listR most (.mk kk fl n s ks kids) = R := ⟨_, rfl⟩
  rw [hR]
  unfold listR at hR
  simp only [T.kind, T.kids] at hR
  have HR := Lib.hid hR
  clear h hb1 hw1 h10 hR hkd hlies hl5 hwK
  by_cases h5 : kk = 5
  case neg =>
    have hE : R = ([], 11) := HR.out.symm.trans (if_pos h5)
    subst hE
    have e5 : (kk != 5) = true := by simpa using h5
    clear HR HL
    go_enter Tryd.func52, Tryd.ntmps52
    go_wp2_with fail
    rw [← Hw1.out]
    go_ret2
    exact ⟨⟨1, _, [], rfl, own_nil _ _ 0 6, List.nodup_nil⟩, Hb1.out⟩
  subst h5
  have HR2 := Lib.hid (HR.out.symm.trans (if_neg (by decide)))
  clear HR
  by_cases hm : most < (kids.length : Int)
  case pos =>
    have hE : R = ([], 16) := HR2.out.trans (if_pos hm)
    subst hE
    clear HR2 HL
    go_enter Tryd.func52, Tryd.ntmps52
    go_wp2_with fail
    rw [← Hw1.out]
    go_ret2
    exact ⟨⟨1, _, [], rfl, own_nil _ _ 0 6, List.nodup_nil⟩, Hb1.out⟩
  case neg =>
    have hE : R = (kids, 0) := HR2.out.trans (if_neg hm)
    subst hE
    clear HR2
    go_enter Tryd.func52, Tryd.ntmps52
    go_wp2_with fail
    rw [← Hw1.out]
    refine HL.out.mono ?_
    rintro e w2 ⟨⟨us, F, rfl, ho, hnd⟩, hb2⟩
    obtain ⟨x0, x1, x2, x3, x4, x5, rfl⟩ := six_of (ho.1.trans (row_length _))
    have Hb2 := Lib.hid (below_link Hb1.out hb2 Hb1.out.size)
    have Ho := Lib.hid (ho.lower Hb1.out.size)
    have hf5 := run_field5 x0 x1 x2 x3 x4 x5 w2
    clear HL hb2 ho p0 p1 p2 p3 p4 p5 Hw1
    go_wp2_with fail
    go_ret2
    obtain ⟨G, hG, hGn⟩ := own_six Ho.out hnd
    exact ⟨⟨_, _, G, rfl, hG, hGn⟩, Hb2.out⟩
theorem list_closure {f : Nat} (K : T) (most : Int) (a : Nat) (us : List Value) (w : World) (h : LiesS w f us (row K)) (hwK : weight K ≤ 1048576) (ha : w.heap[a]? = some (.cells #[.int .i64 most] 3 (0, 0))) :
    Calls Tryd.prog 51 #[.agg us.toArray, .pointer (some ⟨a, 0, none⟩)] w fun e w' => LVOut w.heap.size (listR most K) e w' ∧ Below w.heap.size w w' := by
  obtain ⟨u0, u1, u2, u3, u4, u5, rfl⟩ := six_of (h.1.trans (row_length K))
  obtain ⟨w1, hw1⟩ : ∃ w1, w1 = w.alloc (.cells #[u0, u1, u2, u3, u4, u5] 35) := ⟨_, rfl⟩
  have hb1 : Below w.heap.size w w1 := by subst hw1; exact (Below.refl _ _).alloc (Nat.le_refl _) _
  have h10 : w1.heap[w.heap.size]? = some (.cells #[u0, u1, u2, u3, u4, u5] 35 (0, 0)) := by subst hw1; exact heap_alloc_new w _
  have ca : w1.cell? ⟨a, 0, none⟩ = some (.int .i64 most) := by rw [cell_of_row w1 a 0 _ _ _ (heap_kept hb1 (heap_lt ha) ha)]; rfl
  have HV := Lib.hid (list_value K most _ w1 (h.below hb1) hwK)
  have Hb1 := Lib.hid hb1
  have Hw1 := Lib.hid hw1
  obtain ⟨p0, p1, p2, p3, p4, p5⟩ := Row6.of h10
  rw [Hw1.out] at p0 p1 p2 p3 p4 p5 ca
  generalize listR most K = R at HV ⊢
  obtain ⟨rl, rc⟩ := R
  clear h hb1 hw1 h10 ha hwK
  go_enter Tryd.func51, Tryd.ntmps51
  go_wp2_with fail
  rw [← Hw1.out]
  refine HV.out.mono ?_
  rintro e w2 ⟨⟨fv, v, F, rfl, ho, hnd⟩, hb2⟩
  have Hb2 := Lib.hid (below_link Hb1.out hb2 Hb1.out.size)
  have Ho := Lib.hid (ho.lower Hb1.out.size)
  clear hb2 HV p0 p1 p2 p3 p4 p5 ca ho
  go_wp2_with fail
  go_ret2
  exact ⟨⟨_, _, F, rfl, Ho.out, hnd⟩, Hb2.out⟩
end Go.Proofs.YtangdmjdjiddcaaDoor.field
