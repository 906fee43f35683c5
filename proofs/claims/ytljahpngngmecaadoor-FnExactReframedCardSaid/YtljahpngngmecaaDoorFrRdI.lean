/- impl.ReadFrame. -/
import Derived.Test.YtljahpngngmecaaDoorFrFaultI
import Derived.Deep.RegionWith
namespace Go.Proofs.YtljahpngngmecaaDoor.frame
open Go.ChangeShapes Go.WideShapes Go.ChangeAt Go.RowKit
open crc fixed
set_option linter.unusedVariables false

set_option maxRecDepth 100000 in
theorem impl_read (s : ByteArray) (w : World) (a : Fin 5 → Addr) (hA : At w a) (hs : s.size ≤ maxLen) :
    Calls Tryd.prog 14 #[.string s] w fun e w' => e = .returned (rdV (readF s)) ∧ Below w.heap.size w w' := by
  have HF : Hid (∀ w', Below w.heap.size w w' → Calls Tryd.prog 30 #[.string s] w' fun e w2 => e = .returned (.tuple #[frV (readF s).1.1 (readF s).1.2, faultV a (readF s).2]) ∧ Below w'.heap.size w' w2) := fun w' hb => in_any s w' a (hA.below hb) hs
  have HC : Hid (∀ w', Below w.heap.size w w' → Calls Tryd.prog 31 #[faultV a (readF s).2] w' fun e w2 => e = .returned (.int .i64 (readF s).2) ∧ w' = w2) := fun w' hb => code_any _ (read_code s) w' a (hA.below hb)
  generalize faultV a (readF s).2 = X at HF HC
  generalize readF s = r at HF HC ⊢
  obtain ⟨⟨v, p⟩, k⟩ := r
  have Hb := Lib.hid (res_below w)
  clear hA
  unfold frV at HF
  go_enter Tryd.func14, Tryd.ntmps14
  go_wp2_with fail
  refine (HF.out _ Hb.out).mono ?_
  rintro e w1 ⟨rfl, hb1⟩
  clear HF
  have hbw : Below w.heap.size w w1 := Hb.out.trans (hb1.mono (by simp))
  have hg0 : w1.heap[w.heap.size]? = some (.cells #[.int .i64 0, .string ⟨#[]⟩] 25 (0, 0)) := heap_kept hb1 (by simp) (heap_alloc_new w _)
  have hlt : w.heap.size < w1.heap.size := (Array.getElem?_eq_some_iff.1 hg0).1
  have hb2 : Below w1.heap.size w1 (w1.alloc (.cells #[.int .i64 v, .string p] 25)) := (Below.refl _ _).alloc (Nat.le_refl _) _
  have hbW : Below w.heap.size w (w1.alloc (.cells #[.int .i64 v, .string p] 25)) := hbw.trans (hb2.mono hbw.size)
  obtain ⟨f0, f1, _, _⟩ := two_cells (heap_alloc_new w1 (.cells #[.int .i64 v, .string p] 25))
  have hg := heap_kept hb2 hlt hg0
  clear hb1 hb2 hg0 hbw Hb hlt
  go_wp2_with fail
  obtain ⟨c0, c1, z0, z1⟩ := two_cells hg
  have Hg := Lib.hid (set_two hg (.int .i64 v) (.string p))
  have Hbw : Hid (Below w.heap.size w (((w1.alloc (.cells #[.int .i64 v, .string p] 25)).setCell ⟨w.heap.size, 0, none⟩ (.int .i64 v)).setCell ⟨w.heap.size, 1, none⟩ (.string p))) := (hbW.setCell (p := ⟨w.heap.size, 0, none⟩) (Nat.le_refl _) _).setCell (p := ⟨w.heap.size, 1, none⟩) (Nat.le_refl _) _
  have HbW := Lib.hid hbW.drew
  clear hg hbW
  go_region_with (go_at_call 31; refine (HC.out _ (by first | exact HbW.out | exact Hbw.out.drew)).mono ?_; rintro e w3 ⟨rfl, rfl⟩)
  all_goals go_wp2_with fail
  all_goals refine bodyPost_ret (v := rdV ((v, p), k)) ?_ rfl ⟨rfl, Hbw.out.drew⟩
  all_goals exact ret_frame rfl rfl rfl Hg.out
end Go.Proofs.YtljahpngngmecaaDoor.frame
