/- impl.SplitAmount. -/
import Derived.Test.YtiibldfkefihlaaDoorSplitM
import Derived.Test.YtiibldfkefihlaaDoorShelf
import Derived.Shelf.Strings.SlTrimAscii
namespace Go.Proofs.YtiibldfkefihlaaDoor.split
open Go.ChangeShapes Go.WideShapes Go.ChangeAt Go.RowKit
set_option linter.unusedVariables false

theorem dig_all : ∀ n : Fin 256, ([48, 49, 50, 51, 52, 53, 54, 55, 56, 57] : List UInt8).contains (UInt8.ofNat n.val) = dig (UInt8.ofNat n.val) := by decide +kernel
theorem dig_set (b : UInt8) : ([48, 49, 50, 51, 52, 53, 54, 55, 56, 57] : List UInt8).contains b = dig b := by
  have h := dig_all ⟨b.toNat, b.toNat_lt⟩
  simpa using h
theorem trim_list : ∀ l : List UInt8, Lib.trimLeftS l [48, 49, 50, 51, 52, 53, 54, 55, 56, 57] = l.drop (ld l)
  | [] => rfl
  | b :: r => by
    have ih := trim_list r
    unfold Lib.trimLeftS at ih ⊢
    rw [List.dropWhile_cons, dig_set]
    unfold ld
    split
    · rw [ih, List.drop_succ_cons]
    · rfl
theorem trim_any (s : ByteArray) (w : World) :
    Calls Tryd.prog 37 #[.string s, .string ⟨#[48, 49, 50, 51, 52, 53, 54, 55, 56, 57]⟩] w fun e w' => e = .returned (.string (snd s)) ∧ Below w.heap.size w w' := by
  have h := Any.strings_TrimLeft_laid Tryd.lays161 (by kernel_rfl) s ⟨#[48, 49, 50, 51, 52, 53, 54, 55, 56, 57]⟩ w (by decide) (ascii_of_all (by decide))
  have e : snd s = ⟨(Lib.trimLeftS s.data.toList (⟨#[48, 49, 50, 51, 52, 53, 54, 55, 56, 57]⟩ : ByteArray).data.toList).toArray⟩ := by
    refine mk_eq ?_
    rw [snd_list]
    exact (trim_list _).symm
  rw [e]
  exact h
theorem impl_any (s : ByteArray) (w : World) (hs : s.size ≤ maxLen) :
    Calls Tryd.prog 18 #[.string s] w fun e w' => e = .returned (.tuple #[.string (fst s), .string (snd s)]) ∧ Below w.heap.size w w' := by
  unfold maxLen at hs
  have HT := Lib.hid (trim_any s w)
  have hz := snd_size s
  have hl := lead_le s
  have Hf : Hid (s.extract 0 (s.size - (s.size - lead s)) = fst s) := by
    unfold Hid fst
    congr 1
    omega
  go_enter Tryd.func18, Tryd.ntmps18
  go_wp2_with fail
  refine HT.out.mono ?_
  rintro e w1 ⟨rfl, hb⟩
  clear HT
  go_wp2_with fail
  go_ret2
  exact ⟨by rw [← Hf.out]; rfl, hb⟩
end Go.Proofs.YtiibldfkefihlaaDoor.split
