/- Unhex of Hex: the text itself. -/
import Derived.Test.YtmknkpoihnpnkaaDoorHexM
import Derived.Test.YtmknkpoihnpnkaaDoorUnhexM
namespace Go.Proofs.YtmknkpoihnpnkaaDoor.hexback
open Go.ChangeShapes Go.WideShapes Go.ChangeAt Go.RowKit
set_option linter.unusedVariables false

theorem val_fig : ∀ n : Fin 16, unhex.valI ((hex.fig n.val).toNat : Int) = (n.val : Int) := by decide +kernel
theorem val_fig' (n : Nat) (h : n < 16) : unhex.valI ((hex.fig n).toNat : Int) = (n : Int) := val_fig ⟨n, h⟩

theorem hex_get (l : List UInt8) : ∀ j, j < l.length → (hex.hexL l)[2 * j]? = some (hex.fig ((l.getD j 0).toNat / 16)) ∧ (hex.hexL l)[2 * j + 1]? = some (hex.fig ((l.getD j 0).toNat % 16)) := by
  induction l with
  | nil => intro j hj; simp at hj
  | cons c l ih =>
    intro j hj
    have e : hex.hexL (c :: l) = hex.fig (c.toNat / 16) :: hex.fig (c.toNat % 16) :: hex.hexL l := by simp [hex.hexL]
    rw [e]
    cases j with
    | zero => simp
    | succ j =>
      have h := ih j (by simpa using hj)
      rw [show 2 * (j + 1) = 2 * j + 2 by omega, show 2 * j + 2 + 1 = 2 * j + 1 + 2 by omega]
      simpa using h

theorem at_hex (l : List UInt8) (j : Nat) (hj : j < l.length) :
    unhex.valI (at_ ⟨(hex.hexL l).toArray⟩ (2 * j)) = (((l.getD j 0).toNat / 16 : Nat) : Int) ∧ unhex.valI (at_ ⟨(hex.hexL l).toArray⟩ (2 * j + 1)) = (((l.getD j 0).toNat % 16 : Nat) : Int) := by
  obtain ⟨h1, h2⟩ := hex_get l j hj
  have hb := (l.getD j 0).toNat_lt
  unfold at_
  refine ⟨?_, ?_⟩
  · rw [List.getD_eq_getElem?_getD]
    simp only [h1, Option.getD_some]
    exact val_fig' _ (by omega)
  · rw [List.getD_eq_getElem?_getD]
    simp only [h2, Option.getD_some]
    exact val_fig' _ (by omega)

theorem back (l : List UInt8) (hl : l.length ≤ 20000) : unhex.out ⟨(hex.hexL l).toArray⟩ = .tuple #[.string ⟨l.toArray⟩, .bool true] := by
  have hsz : (⟨(hex.hexL l).toArray⟩ : ByteArray).size = 2 * l.length := by
    show (hex.hexL l).toArray.size = _
    rw [List.size_toArray, hex.hexL_length]
  have hh : (⟨(hex.hexL l).toArray⟩ : ByteArray).size / 2 = l.length := by omega
  rw [unhex.out_yes (by omega) (by omega) (fun j hj => by
    obtain ⟨h1, h2⟩ := at_hex l j (by omega)
    exact ⟨by rw [h1]; omega, by rw [h2]; omega⟩), hh]
  have hd : unhex.dec ⟨(hex.hexL l).toArray⟩ l.length = l := by
    unfold unhex.dec
    apply List.ext_getElem
    · simp
    · intro j h1 h2
      obtain ⟨e1, e2⟩ := at_hex l j h2
      have hg : l.getD j 0 = l[j] := by simp [List.getD, h2]
      rw [hg] at e1 e2
      have hb := (l[j]).toNat_lt
      simp only [List.getElem_map, List.getElem_range, unhex.byteAt, e1, e2]
      have : (16 * (((l[j]).toNat / 16 : Nat) : Int) + (((l[j]).toNat % 16 : Nat) : Int)).toNat = (l[j]).toNat := by omega
      rw [this]
      simp
  rw [hd]
end Go.Proofs.YtmknkpoihnpnkaaDoor.hexback
