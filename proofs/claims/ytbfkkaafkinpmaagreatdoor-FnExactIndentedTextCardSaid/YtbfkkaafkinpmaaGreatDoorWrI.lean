/- (*strings.Builder).WriteString and String, with what they keep: their types stand in the laying of strings.Join. -/
import Derived.Test.YtbfkkaafkinpmaaGreatDoorShelf
import Derived.Test.YtbfkkaafkinpmaaGreatDoorGInd
import Derived.Shelf.Strings.BuilderK
namespace Go.Proofs.YtbfkkaafkinpmaaGreatDoor.ind
open Go.ChangeShapes Go.WideShapes Go.ChangeAt Go.RowKit
set_option linter.unusedVariables false

theorem impl_ws (B b : Nat) (l : List UInt8) (s : ByteArray) (w : World) (h : Lib.IsBuilderF 48 5 B b (Lib.byteCells l) w) (hlen : l.length + s.size ≤ 140737488355328) (hBw : B ≤ w.heap.size) :
    Calls Tryz.prog 27 #[.pointer (some ⟨b, 0, none⟩), .string s] w fun e w' => e = .returned (.tuple #[.int .i64 s.size, .nilIface]) ∧ Lib.IsBuilderF 48 5 B b (Lib.byteCells (l ++ s.data.toList)) w' ∧ Below B w w' ∧ Lib.OthersKept 5 (some b) w w' :=
  (Any.Builder_WriteString_k { Tryz.lays156 with } Tryz.Builder_Extra_156 B b (Lib.byteCells l) s w h (by rw [Lib.byteCells_length]; exact hlen) hBw).mono fun e w' hh => ⟨hh.1, .inr (by rw [Lib.byteCells_append]; exact hh.2.1), hh.2.2.1, hh.2.2.2⟩
theorem impl_bs (B b : Nat) (l : List UInt8) (w : World) (h : Lib.IsBuilderF 48 5 B b (Lib.byteCells l) w) (hBw : B ≤ w.heap.size) :
    Calls Tryz.prog 29 #[.pointer (some ⟨b, 0, none⟩)] w fun e w' => e = .returned (.string ⟨l.toArray⟩) ∧ Below B w w' :=
  (Any.Builder_String_any_k { Tryz.lays156 with } Tryz.Builder_Extra_156 B b l w h hBw).mono fun e w' hh => ⟨hh.1, hh.2.2.1⟩
theorem impl_bl (B b : Nat) (l : List UInt8) (w : World) (h : Lib.IsBuilderF 48 5 B b (Lib.byteCells l) w) :
    Calls Tryz.prog 28 #[.pointer (some ⟨b, 0, none⟩)] w fun e w' => e = .returned (.int .i64 l.length) ∧ w = w' :=
  (Any.Builder_Len_f Tryz.lays170 B b (Lib.byteCells l) w h).mono fun e w' hh => ⟨by rw [hh.1, Lib.byteCells_length], hh.2.symm⟩
theorem str_ne_byte : (9 : TypeId) ≠ 5 := by decide
/-- A list of strings of the call's own stands, whatever the builder does. -/
theorem own_others {w w' : World} {B n b : Nat} {v : Value} {xs : List Value} (h : w.ownsRow B 9 1 v n xs) (hk : Lib.OthersKept 5 (some b) w w') (hb : v.ownBlock ≠ some b) : w'.ownsRow B 9 1 v n xs := by
  refine ⟨h.1, ?_⟩
  rcases h.2 with h6 | ⟨k, cap, cur, rfl, k2, k3, k4⟩
  · exact .inl h6
  · refine .inr ⟨k, cap, cur, rfl, k2, hk k _ k3 (fun e => hb (by simpa [Value.ownBlock] using e)) (fun c fz e => ?_), k4⟩
    injection e with _ e2 _
    exact str_ne_byte e2
theorem builder_below {w w' : World} {T e : TypeId} {B b : Nat} {l : List Value} (h : Lib.IsBuilder T e B b l w) (hb : Below w.heap.size w w') : Lib.IsBuilder T e B b l w' := by
  have key : ∀ p, Lib.BuilderAt T e B b p l w → Lib.BuilderAt T e B b p l w' := by
    rintro p ⟨hB, v, hv, hown, hne⟩
    exact ⟨hB, v, heap_kept hb (heap_lt hv) hv, own_below' hown hb, hne⟩
  exact h.imp (key _) (key _)
end Go.Proofs.YtbfkkaafkinpmaaGreatDoor.ind
