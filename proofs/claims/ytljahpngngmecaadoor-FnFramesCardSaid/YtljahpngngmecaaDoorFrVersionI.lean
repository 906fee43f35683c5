/- impl.VersionIn. -/
import Derived.Test.YtljahpngngmecaaDoorFrRdI
namespace Go.Proofs.YtljahpngngmecaaDoor.frame
open Go.ChangeShapes Go.WideShapes Go.ChangeAt Go.RowKit
open crc fixed
set_option linter.unusedVariables false

theorem impl_version (s : ByteArray) (w : World) (a : Fin 5 → Addr) (hA : At w a) (hs : s.size ≤ maxLen) :
    Calls Tryd.prog 15 #[.string s] w fun e w' => e = .returned (.tuple #[.int .i64 (readF s).1.1, .int .i64 (readF s).2]) ∧ Below w.heap.size w w' := by
  have HR := Lib.hid (impl_read s w a hA hs)
  clear hA
  generalize readF s = r at HR
  obtain ⟨⟨v, p⟩, k⟩ := r
  unfold rdV frV at HR
  go_enter Tryd.func15, Tryd.ntmps15
  go_wp2_with fail
  refine HR.out.mono ?_
  rintro e w1 ⟨rfl, hb1⟩
  clear HR
  go_wp2_with fail
  go_ret2
  exact ⟨rfl, hb1.alloc hb1.size _⟩
end Go.Proofs.YtljahpngngmecaaDoor.frame
