/- The law's own mark of a number: plain. -/
import Derived.Test.YtjcfaepklakpkaaDoorBase
namespace Go.Proofs.YtjcfaepklakpkaaDoor.lawMark
open Go Go.RowKit
set_option linter.unusedVariables false

/-- The digits of m in front of acc (f: fuel). -/
def dg : Nat → Nat → List UInt8 → List UInt8
  | 0, _, acc => acc
  | f + 1, m, acc => if m = 0 then acc else dg f (m / 10) (UInt8.ofNat (48 + m % 10) :: acc)
theorem dg_zero (f : Nat) (acc : List UInt8) : dg f 0 acc = acc := by cases f <;> simp [dg]
/-- The law's mark of number m. -/
def mt (m : Int) : ByteArray := if m ≤ 0 then ⟨#[109, 48]⟩ else ⟨(109 :: dg m.toNat m.toNat []).toArray⟩
theorem mt_lo {m : Int} (h : m ≤ 0) : mt m = ⟨#[109, 48]⟩ := by unfold mt; rw [if_pos h]
theorem mt_hi {m : Int} (h : ¬ m ≤ 0) : mt m = ⟨(109 :: dg m.toNat m.toNat []).toArray⟩ := by unfold mt; rw [if_neg h]

theorem dg_length : ∀ (f m : Nat) (acc : List UInt8), (dg f m acc).length ≤ f + acc.length
  | 0, m, acc => by simp [dg]
  | f + 1, m, acc => by
    rw [dg]
    split
    · omega
    · have h := dg_length f (m / 10) (UInt8.ofNat (48 + m % 10) :: acc)
      rw [List.length_cons] at h
      omega
theorem mt_size (m : Int) (h : m ≤ 4611686018427387904) : (mt m).size ≤ maxLen := by
  unfold mt maxLen
  split
  · decide
  · show (109 :: dg m.toNat m.toNat []).toArray.size ≤ _
    rw [List.size_toArray, List.length_cons]
    have := dg_length m.toNat m.toNat []
    simp at this
    omega
theorem wf_of {k : Int} (h0 : -9223372036854775808 ≤ k) (h1 : k ≤ 9223372036854775807) : (Lit.int .i64 k).wf = true := by
  have e1 : IntKind.i64.min = -9223372036854775808 := rfl
  have e2 : IntKind.i64.max = 9223372036854775807 := rfl
  simp [Lit.wf, e1, e2]
  omega
end Go.Proofs.YtjcfaepklakpkaaDoor.lawMark
