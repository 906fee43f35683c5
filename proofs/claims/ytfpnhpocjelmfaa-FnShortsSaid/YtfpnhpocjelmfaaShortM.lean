/- Strings behind their length. -/
import Derived.Test.YtfpnhpocjelmfaaVarM
namespace Go.Proofs.Ytfpnhpocjelmfaa.short
open Go Go.RowKit
open varint
set_option linter.unusedVariables false

def shortF (s : ByteArray) : ByteArray := varF (s.size : Int) ++ s
theorem shortF_list (l : List UInt8) : shortF ⟨l.toArray⟩ = ⟨(varL l.length ++ l).toArray⟩ := by
  unfold shortF
  have e : ((⟨l.toArray⟩ : ByteArray).size : Int) = (l.length : Int) := by show (l.toArray.size : Int) = _; rw [List.size_toArray]
  rw [e, varF_nat, bytes_append]
def restF (s : ByteArray) (r : Int × Int) : ByteArray × Int := if r.2 < 0 ∨ s.size - r.2 < r.1 then (⟨#[]⟩, -1) else (s.extract r.2.toNat (r.2 + r.1).toNat, r.2 + r.1)
theorem rest_no {s : ByteArray} {r : Int × Int} (h : r.2 < 0 ∨ s.size - r.2 < r.1) : restF s r = (⟨#[]⟩, -1) := by unfold restF; rw [if_pos h]
theorem rest_yes {s : ByteArray} {r : Int × Int} (h : ¬ (r.2 < 0 ∨ s.size - r.2 < r.1)) : restF s r = (s.extract r.2.toNat (r.2 + r.1).toNat, r.2 + r.1) := by unfold restF; rw [if_neg h]
def readS (s : ByteArray) (a : Int) : ByteArray × Int := restF s (readF s a)

/-- One reads what was written. -/
theorem read_short (l post : List UInt8) (hl : (l.length : Int) ≤ 9223372036854775807) :
    readS ⟨(varL l.length ++ (l ++ post)).toArray⟩ 0 = (⟨l.toArray⟩, (((varL l.length).length + l.length : Nat) : Int)) := by
  unfold readS
  have h := read_var (n := l.length) hl [] (l ++ post)
  simp only [List.nil_append, List.length_nil, Nat.zero_add] at h
  have e : ((0 : Nat) : Int) = 0 := rfl
  rw [e] at h
  rw [h, rest_yes]
  · refine Prod.ext ?_ (by simp)
    show ByteArray.extract _ _ _ = _
    apply ByteArray.ext
    rw [ByteArray.data_extract]
    apply Array.ext'
    rw [Array.toList_extract]
    have e1 : ((((varL l.length).length : Nat) : Int)).toNat = (varL l.length).length := by omega
    have e2 : ((((varL l.length).length : Nat) : Int) + (l.length : Int)).toNat = (varL l.length).length + l.length := by omega
    simp only [e1, e2, List.extract_eq_take_drop]
    show List.take _ (List.drop _ (varL l.length ++ (l ++ post))) = l
    rw [List.drop_left', Nat.add_sub_cancel_left, List.take_left']
    · rfl
    · rfl
  · show ¬ (((((varL l.length).length : Nat) : Int)) < 0 ∨ ((varL l.length ++ (l ++ post)).toArray.size : Int) - _ < _)
    rw [List.size_toArray, List.length_append, List.length_append]
    show ¬ (((((varL l.length).length : Nat) : Int)) < 0 ∨ (((varL l.length).length + (l.length + post.length) : Nat) : Int) - (((varL l.length).length : Nat) : Int) < (l.length : Int))
    omega
end Go.Proofs.Ytfpnhpocjelmfaa.short
