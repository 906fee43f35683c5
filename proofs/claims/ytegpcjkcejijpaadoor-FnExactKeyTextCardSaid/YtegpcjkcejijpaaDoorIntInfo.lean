/- The element of a slice of ints; what a cut text's numbers are. -/
import Derived.Test.YtegpcjkcejijpaaDoorRuneM
import Derived.Test.YtegpcjkcejijpaaDoorRows
import Derived.ProofKit
import Derived.OpenShut
namespace Go.Proofs.YtegpcjkcejijpaaDoor.iinfo
open Go.ChangeShapes Go.WideShapes Go.ChangeAt Go.RowKit
set_option linter.unusedVariables false
theorem Trydinfo : (Tryd.prog.info? 3).map (fun i => (i.zero, i.size, i.bytes)) = some (some (.int .i64 0), 1, 8) := by kernel_rfl
theorem snoc (l : List Int) (x : Int) : icells l ++ [.int .i64 x] = icells (l ++ [x]) := by rw [icells_append]; rfl
theorem one_cell (x : Int) : ∀ u ∈ ([.int .i64 x] : List Value), u.oneCell' = true := by intro u hu; simp at hu; subst hu; rfl
end Go.Proofs.YtegpcjkcejijpaaDoor.iinfo
namespace Go.Proofs.YtegpcjkcejijpaaDoor.rune
open Go Go.RowKit
/-- The numbers of a text; none if it is no UTF-8. -/
noncomputable def resL (s : ByteArray) : List Int := (runesF s).getD []
/-- Is it UTF-8? -/
noncomputable def okS (s : ByteArray) : Bool := (runesF s).isSome
theorem res_none {s : ByteArray} (h : runesF s = none) : resL s = [] ∧ okS s = false := by unfold resL okS; rw [h]; exact ⟨rfl, rfl⟩
theorem res_some {s : ByteArray} {l : List Int} (h : runesF s = some l) : resL s = l ∧ okS s = true := by unfold resL okS; rw [h]; exact ⟨rfl, rfl⟩
theorem join_none {o : Option (List Int)} {l : List Int} (h : o = none) : o.map (l ++ ·) = none := by rw [h]; rfl
/-- One number more. -/
theorem cut_more {s : ByteArray} {p n k : Nat} {l : List Int} (h : Is s p n) (hk : k = (enc n).length) (hr : (cut s (s.size - p) p).map (l ++ ·) = runesF s) : (cut s (s.size - (p + k)) (p + k)).map ((l ++ [(n : Int)]) ++ ·) = runesF s := by
  have hp := enc_pos n
  have hl := h.2.1
  subst hk
  obtain ⟨b, hb⟩ : ∃ b, s.size - p = b + 1 := ⟨s.size - p - 1, by omega⟩
  rw [← hr, hb, cut_step h, cut_enough (c := b) (by omega) (by omega)]
  cases cut s b (p + (enc n).length) with
  | none => rfl
  | some r => simp
theorem cut_stop {s : ByteArray} {p : Nat} {l : List Int} (h : s.size ≤ p) (hr : (cut s (s.size - p) p).map (l ++ ·) = runesF s) : runesF s = some l := by
  rw [← hr, cut_end h]
  simp
theorem cut_fail {s : ByteArray} {p : Nat} {l : List Int} (hp : p < s.size) (h : (atF s (p : Int)).2 < 0) (hr : (cut s (s.size - p) p).map (l ++ ·) = runesF s) : runesF s = none := by
  rw [← hr, cut_none hp h]
  rfl
end Go.Proofs.YtegpcjkcejijpaaDoor.rune
