/- impl.Unhex and spec.Unhex: both return the bytes whose digits the text is, else the empty string and false. -/
import Derived.Test.YtmknkpoihnpnkaaDoorRows
import Derived.Test.YtmknkpoihnpnkaaDoorBase
import Derived.ProofKit
import Derived.OpenShut
namespace Go.Proofs.YtmknkpoihnpnkaaDoor.unhex
open Go.ChangeShapes Go.WideShapes Go.ChangeAt Go.RowKit
set_option linter.unusedVariables false

/-- The value of a digit, -1 where the byte is none. -/
def valI (x : Int) : Int := if 48 ≤ x ∧ x ≤ 57 then x - 48 else if 97 ≤ x ∧ x ≤ 102 then x - 87 else -1
theorem valI_lt (x : Int) : -1 ≤ valI x ∧ valI x < 16 := by
  unfold valI
  split
  · omega
  · split <;> omega

def okAt (s : ByteArray) (j : Nat) : Prop := 0 ≤ valI (at_ s (2 * j)) ∧ 0 ≤ valI (at_ s (2 * j + 1))
def byteAt (s : ByteArray) (j : Nat) : UInt8 := UInt8.ofNat (16 * valI (at_ s (2 * j)) + valI (at_ s (2 * j + 1))).toNat
def dec (s : ByteArray) (k : Nat) : List UInt8 := (List.range k).map (byteAt s)
theorem dec_length (s : ByteArray) (k : Nat) : (dec s k).length = k := by simp [dec]
theorem dec_succ (s : ByteArray) (k : Nat) (hk : okAt s k) : bcells (dec s (k + 1)) = bcells (dec s k) ++ [.int .u8 (16 * valI (at_ s (2 * k)) + valI (at_ s (2 * k + 1)))] := by
  unfold dec
  rw [List.range_succ, List.map_append, bcells_append]
  congr 1
  simp only [bcells, List.map_cons, List.map_nil, byteAt]
  congr 2
  have h1 := valI_lt (at_ s (2 * k))
  have h2 := valI_lt (at_ s (2 * k + 1))
  obtain ⟨h3, h4⟩ := hk
  simp
  omega

open Classical in
/-- What both functions return. -/
noncomputable def out (s : ByteArray) : Value :=
  if s.size ≤ 40000 ∧ s.size % 2 = 0 ∧ ∀ j, j < s.size / 2 → okAt s j then .tuple #[.string ⟨(dec s (s.size / 2)).toArray⟩, .bool true] else .tuple #[.string ⟨#[]⟩, .bool false]
theorem out_yes {s : ByteArray} (h1 : s.size ≤ 40000) (h2 : s.size % 2 = 0) (h3 : ∀ j, j < s.size / 2 → okAt s j) : out s = .tuple #[.string ⟨(dec s (s.size / 2)).toArray⟩, .bool true] := by
  unfold out; rw [if_pos ⟨h1, h2, h3⟩]
theorem out_no {s : ByteArray} (h : ¬ (s.size ≤ 40000 ∧ s.size % 2 = 0 ∧ ∀ j, j < s.size / 2 → okAt s j)) : out s = .tuple #[.string ⟨#[]⟩, .bool false] := by
  unfold out; rw [if_neg h]

theorem Trydinfo : (Tryd.prog.info? 5).map (fun i => (i.zero, i.size, i.bytes)) = some (some (.int .u8 0), 1, 1) := by kernel_rfl

end Go.Proofs.YtmknkpoihnpnkaaDoor.unhex
