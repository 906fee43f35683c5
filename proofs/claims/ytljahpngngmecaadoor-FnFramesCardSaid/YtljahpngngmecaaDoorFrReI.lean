/- impl.Reframed. -/
import Derived.Test.YtljahpngngmecaaDoorFrReS
import Derived.Test.YtljahpngngmecaaDoorFrTextI
import Derived.Test.YtljahpngngmecaaDoorFrRdI
namespace Go.Proofs.YtljahpngngmecaaDoor.frame
open Go.ChangeShapes Go.WideShapes Go.ChangeAt Go.RowKit
open crc fixed
set_option linter.unusedVariables false

set_option maxRecDepth 100000 in
theorem impl_reframed (s : ByteArray) (v : Int) (w : World) (a : Fin 5 → Addr) (hA : At w a) (hs : s.size ≤ maxLen) :
    Calls Tryd.prog 16 #[.string s, .int .i64 v] w fun e w' => e = .returned (.string (reF s v)) ∧ Below w.heap.size w w' := by
  have HR := Lib.hid (impl_read s w a hA hs)
  clear hA
  by_cases h : (readF s).2 = 0
  · rw [re_yes h]
    have ho := ((ok_iff _ _).1 (read_only h).1).2.2
    generalize readF s = r at HR h ho
    obtain ⟨⟨v0, p⟩, k⟩ := r
    have ho' : p.size ≤ 19980 := ho
    have h' : k = 0 := h
    subst h'
    have HT := Lib.hid (fun w => impl_text v p w (by unfold maxLen; omega))
    unfold rdV frV at HR
    unfold frV at HT
    generalize hF : frameF v ((v0, p), (0 : Int)).1.2 = F
    have hF2 : frameF v p = F := hF
    rw [hF2] at HT
    clear hF hF2 h ho
    go_enter Tryd.func16, Tryd.ntmps16
    go_wp2_with fail
    refine HR.out.mono ?_
    rintro e w1 ⟨rfl, hb1⟩
    clear HR
    have Hb1 := Lib.hid hb1
    clear hb1
    go_wp2_with fail
    refine (HT.out _).mono ?_
    rintro e w2 ⟨rfl, hb2⟩
    clear HT
    have Hb2 : Hid (Below w.heap.size w w2) := (Hb1.out.alloc Hb1.out.size (.cells #[.int .i64 v, .string p] 25)).trans (hb2.mono (Nat.le_trans Hb1.out.size (by simp)))
    clear hb2
    go_wp2_with fail
    go_ret
    exact ⟨rfl, Hb2.out⟩
  · rw [re_no h]
    generalize readF s = r at HR h
    obtain ⟨⟨v0, p⟩, k⟩ := r
    have h' : (k == 0) = false := beq_eq_false_iff_ne.2 h
    unfold rdV frV at HR
    clear h
    go_enter Tryd.func16, Tryd.ntmps16
    go_wp2_with fail
    refine HR.out.mono ?_
    rintro e w1 ⟨rfl, hb1⟩
    clear HR
    have Hb1 := Lib.hid hb1
    clear hb1
    go_wp2_with fail
    go_ret
    exact ⟨rfl, Hb1.out.alloc Hb1.out.size _⟩
end Go.Proofs.YtljahpngngmecaaDoor.frame
