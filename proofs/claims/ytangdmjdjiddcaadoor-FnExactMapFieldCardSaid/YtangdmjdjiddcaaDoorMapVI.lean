/- impl.mapValue. Printed by gen/gen_ifields.py. -/
import Derived.Test.YtangdmjdjiddcaaDoorFieldN
import Derived.Test.YtangdmjdjiddcaaDoorGA9
import Derived.Test.YtangdmjdjiddcaaDoorKidRet
import Derived.Test.YtangdmjdjiddcaaDoorGA3
import Derived.Test.YtangdmjdjiddcaaDoorFaultB
import Derived.Test.YtangdmjdjiddcaaDoorRows
import Derived.ProofKit
import Derived.OpenShut
namespace Go.Proofs.YtangdmjdjiddcaaDoor.field
open Go.ChangeShapes Go.WideShapes Go.ChangeAt Go.RowKit tree
set_option linter.unusedVariables false
set_option linter.unusedSimpArgs false

/-- A tree of the call's own, and a code. -/
def MVOut (B : Nat) (r : T × Int) (e : Ending) (w' : World) : Prop := ∃ f us F, e = .returned (.tuple #[.agg us.toArray, .int .i64 r.2]) ∧ OwnS w' B f us (row r.1) F ∧ F.Nodup
set_option maxRecDepth 100000 in
set_option maxHeartbeats 16000000 in
theorem map_value {f : Nat} (K : T) (us : List Value) (w : World) (h : LiesS w f us (row K)) (hwK : weight K ≤ 1048576) :
    Calls Tryd.prog 58 #[.agg us.toArray] w fun e w' => MVOut w.heap.size (mapR K) e w' ∧ Below w.heap.size w w' := by
  have hsv := h
  obtain ⟨kk, fl, n, s, ks, kids⟩ := K
  obtain ⟨A1, c1, A2, c2, rfl, wk, wn, ws, hc1, hc2, _, _, hc3, hc4, f', rfl, hkd⟩ := open_tree h
  obtain ⟨w0, hw0⟩ : ∃ x, x = w.alloc (.cells #[.int .i64 kk, .bool fl, .int .i64 n, .string s, .slice A1 ks.length c1, .slice A2 kids.length c2] 35) := ⟨_, rfl⟩
  obtain ⟨w1, hw1⟩ : ∃ x, x = w0.alloc (.cells #[.int .i64 0, .bool false, .int .i64 0, .string ⟨#[]⟩, .slice none 0 0, .slice none 0 0] 35) := ⟨_, rfl⟩
  have s0 : w0.heap.size = w.heap.size + 1 := by rw [hw0]; simp
  have hb1 : Below w.heap.size w w1 := by subst hw1; subst hw0; exact ((Below.refl _ _).alloc (Nat.le_refl _) _).alloc (by simp) _
  have h10 : w1.heap[w.heap.size]? = some (.cells #[.int .i64 kk, .bool fl, .int .i64 n, .string s, .slice A1 ks.length c1, .slice A2 kids.length c2] 35 (0, 0)) := by subst hw1; rw [Below.heap_alloc _ _ _ (by omega)]; subst hw0; exact heap_alloc_new w _
  have h11 : w1.heap[w.heap.size + 1]? = some (.cells #[.int .i64 0, .bool false, .int .i64 0, .string ⟨#[]⟩, .slice none 0 0, .slice none 0 0] 35 (0, 0)) := by subst hw1; rw [← s0]; exact heap_alloc_new w0 _
  have HC := Lib.hid (impl_copy _ _ _ w1 (hsv.below hb1) hwK)
  have Hw0 := Lib.hid hw0
  have Hw1 := Lib.hid hw1
  have Hb1 := Lib.hid hb1
  have H11 := Lib.hid h11
  obtain ⟨p0, p1, p2, p3, p4, p5⟩ := Row6.of h10
  rw [Hw1.out, Hw0.out] at p0 p1 p2 p3 p4 p5
  obtain ⟨R, hR⟩ : ∃ R, mapR (.mk kk fl n s ks kids) = R := ⟨_, rfl⟩
  rw [hR]
  unfold mapR at hR
  simp only [T.kind] at hR
  have HR := Lib.hid hR
  have hz1 : (#[.int .i64 0, .bool false, .int .i64 0, .string ⟨#[]⟩, .slice none 0 0, .slice none 0 0] : Array Value).all (·.oneCell') = true := by simp [Value.oneCell']
  clear h hsv hb1 hw0 hw1 h10 h11 hR hkd hwK s0
  by_cases h6 : kk = 6
  case neg =>
    have hE : R = (zero, 11) := HR.out.symm.trans (if_pos h6)
    subst hE
    have e6 : (kk != 6) = true := by simpa using h6
    clear HR HC
    go_enter Tryd.func58, Tryd.ntmps58
    go_wp2_with (first | (rw [← Hw0.out, ← Hw1.out]; refine wpList_store_row rfl 35 _ _ rfl (w.heap.size + 1) #[.int .i64 0, .bool false, .int .i64 0, .string ⟨#[]⟩, .slice none 0 0, .slice none 0 0] rfl rfl 35 _ H11.out tree_size' rfl hz1 ?_) | fail)
    refine bodyPost_ret (v := .tuple #[.agg #[.int .i64 0, .bool false, .int .i64 0, .string ⟨#[]⟩, .slice none 0 0, .slice none 0 0], .int .i64 11]) ?_ rfl ⟨⟨1, _, [], rfl, own_zero 0, List.nodup_nil⟩, setRow_below Hb1.out (by omega) _⟩
    exact ret_tree2 rfl rfl rfl rfl (setRow_at H11.out)
  case pos =>
    subst h6
    have hE : R = (.mk 6 fl n s ks kids, 0) := HR.out.symm.trans (if_neg (by decide))
    subst hE
    clear HR
    go_enter Tryd.func58, Tryd.ntmps58
    go_wp2_with fail
    rw [← Hw0.out, ← Hw1.out]
    refine HC.out.mono ?_
    rintro e w2 ⟨⟨us, F, rfl, ho, hnd⟩, hb2⟩
    obtain ⟨x0, x1, x2, x3, x4, x5, rfl⟩ := six_of (ho.1.trans (row_length _))
    have hone := ho.one
    have H21 := Lib.hid (heap_kept hb2 (heap_lt H11.out) H11.out)
    have Hb2 := Lib.hid (below_link Hb1.out hb2 Hb1.out.size)
    have Hlt := Lib.hid (heap_lt H11.out)
    have Ho := Lib.hid ho
    clear HC hb2 ho p0 p1 p2 p3 p4 p5
    go_wp2_with (first | (refine wpList_store_row rfl 35 _ _ rfl (w.heap.size + 1) #[x0, x1, x2, x3, x4, x5] rfl rfl 35 _ H21.out tree_size' rfl hone ?_) | fail)
    have hfar : ∀ y ∈ F, y ≠ w.heap.size + 1 := fun y hy => by have h1 := (Ho.out.range y hy).1; have h2 := Hlt.out; omega
    refine bodyPost_ret (v := .tuple #[.agg #[x0, x1, x2, x3, x4, x5], .int .i64 0]) ?_ rfl ⟨⟨_, _, F, rfl, ((OwnS.kept (fun y hy => setRow_other _ _ _ _ (hfar y hy)) Ho.out).lower Hb1.out.size), hnd⟩, setRow_below Hb2.out (by omega) _⟩
    exact ret_tree2 rfl rfl rfl rfl (setRow_at H21.out)
end Go.Proofs.YtangdmjdjiddcaaDoor.field
