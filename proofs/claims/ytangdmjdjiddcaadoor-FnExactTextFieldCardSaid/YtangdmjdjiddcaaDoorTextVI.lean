/- impl.textValue. Printed by gen/gen_ifields.py. -/
import Derived.Test.YtangdmjdjiddcaaDoorFieldN
import Derived.Test.YtangdmjdjiddcaaDoorGA4
import Derived.Test.YtangdmjdjiddcaaDoorGA3
import Derived.Test.YtangdmjdjiddcaaDoorRows
import Derived.ProofKit
import Derived.OpenShut
namespace Go.Proofs.YtangdmjdjiddcaaDoor.field
open Go.ChangeShapes Go.WideShapes Go.ChangeAt Go.RowKit tree
set_option linter.unusedVariables false
set_option linter.unusedSimpArgs false

set_option maxRecDepth 100000 in
set_option maxHeartbeats 16000000 in
theorem text_value {f : Nat} (K : T) (us : List Value) (w : World) (h : LiesS w f us (row K)) :
    Calls Tryd.prog 44 #[.agg us.toArray] w fun e w' => e = .returned (.tuple #[.string (textR K).1, .int .i64 (textR K).2]) ∧ Below w.heap.size w w' := by
  obtain ⟨kk, fl, n, s, ks, kids⟩ := K
  obtain ⟨A1, c1, A2, c2, rfl, wk, wn, ws, hc1, hc2, _, _, hc3, hc4, f', rfl, hkd⟩ := open_tree h
  obtain ⟨w1, hw1⟩ : ∃ w1, w1 = w.alloc (.cells #[.int .i64 kk, .bool fl, .int .i64 n, .string s, .slice A1 ks.length c1, .slice A2 kids.length c2] 35) := ⟨_, rfl⟩
  have hb1 : Below w.heap.size w w1 := by subst hw1; exact (Below.refl _ _).alloc (Nat.le_refl _) _
  have h10 : w1.heap[w.heap.size]? = some (.cells #[.int .i64 kk, .bool fl, .int .i64 n, .string s, .slice A1 ks.length c1, .slice A2 kids.length c2] 35 (0, 0)) := by subst hw1; exact heap_alloc_new w _
  have Hb1 := Lib.hid hb1
  have Hw1 := Lib.hid hw1
  obtain ⟨p0, p1, p2, p3, p4, p5⟩ := Row6.of h10
  rw [Hw1.out] at p0 p1 p2 p3 p4 p5
  obtain ⟨R, hR⟩ : ∃ R, textR (.mk kk fl n s ks kids) = R := ⟨_, rfl⟩
  rw [hR]
  unfold textR at hR
  simp only [T.kind, T.text] at hR
  have HR := Lib.hid hR
  clear h hb1 hw1 h10 hR hkd
  by_cases h4 : kk = 4
  · have hE : R = (s, 0) := HR.out.symm.trans (if_neg (by simpa using h4))
    subst hE h4
    clear HR
    go_enter Tryd.func44, Tryd.ntmps44
    go_wp2_with fail
    rw [← Hw1.out]
    go_ret2
    exact ⟨rfl, Hb1.out⟩
  · have hE : R = (⟨#[]⟩, 11) := HR.out.symm.trans (if_pos h4)
    subst hE
    have e4 : (kk != 4) = true := by simpa using h4
    clear HR
    go_enter Tryd.func44, Tryd.ntmps44
    go_wp2_with fail
    rw [← Hw1.out]
    go_ret2
    exact ⟨rfl, Hb1.out⟩
end Go.Proofs.YtangdmjdjiddcaaDoor.field
