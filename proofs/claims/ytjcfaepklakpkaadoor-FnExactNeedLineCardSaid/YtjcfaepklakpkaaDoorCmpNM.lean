/- Requirements compared by a number: plain. -/
import Derived.Test.YtjcfaepklakpkaaDoorSortNM
import Derived.Test.YtjcfaepklakpkaaDoorArithM
import Derived.Lib.Bytealg
namespace Go.Proofs.YtjcfaepklakpkaaDoor.need
open Go Go.RowKit ty lab dedup
set_option linter.unusedVariables false

def cmpB (a b : ByteArray) : Int := Lib.compareBytes a.data.toList b.data.toList
theorem cmpL_less : ∀ a b : List UInt8, decide (Lib.compareBytes a b < 0) = Op.bytesLess a b
  | [], [] => rfl
  | [], _ :: _ => rfl
  | _ :: _, [] => rfl
  | a :: x, b :: y => by
    rw [Lib.compareBytes, Op.bytesLess]
    by_cases h1 : a < b
    · simp [h1]
    · rw [if_neg h1]
      by_cases h2 : b < a
      · rw [if_pos h2]
        have : (a == b) = false := by rw [beq_eq_false_iff_ne]; rintro rfl; exact h1 h2
        simp [h1, this]
      · rw [if_neg h2, cmpL_less x y]
        obtain rfl : a = b := by
          rw [UInt8.lt_iff_toNat_lt] at h1 h2
          exact UInt8.toNat_inj.1 (by omega)
        simp [h1]
theorem cmpL_zero : ∀ a b : List UInt8, Lib.compareBytes a b = 0 → a = b
  | [], [], _ => rfl
  | [], _ :: _, h => by simp [Lib.compareBytes] at h
  | _ :: _, [], h => by simp [Lib.compareBytes] at h
  | a :: x, b :: y, h => by
    rw [Lib.compareBytes] at h
    by_cases h1 : a < b
    · rw [if_pos h1] at h; cases h
    · rw [if_neg h1] at h
      by_cases h2 : b < a
      · rw [if_pos h2] at h; cases h
      · rw [if_neg h2] at h
        rw [UInt8.lt_iff_toNat_lt] at h1 h2
        obtain rfl : a = b := UInt8.toNat_inj.1 (by omega)
        rw [cmpL_zero x y h]
theorem cmpL_self : ∀ a : List UInt8, Lib.compareBytes a a = 0
  | [] => rfl
  | a :: x => by
    have : ¬ a < a := fun h => by rw [UInt8.lt_iff_toNat_lt] at h; omega
    rw [Lib.compareBytes, if_neg this, if_neg this, cmpL_self x]
theorem cmpB_less (a b : ByteArray) : decide (cmpB a b < 0) = lessB a b := by
  unfold cmpB lessB
  rw [cmpL_less, ByteArray.toList_eq, ByteArray.toList_eq]
theorem cmpB_zero {a b : ByteArray} (h : cmpB a b = 0) : a = b := by
  have := cmpL_zero _ _ h
  apply ByteArray.ext
  exact Array.ext' this
theorem cmpB_self (a : ByteArray) : cmpB a a = 0 := cmpL_self _
theorem cmpB_way (a b : ByteArray) : cmpB a b = 0 ∧ a = b ∨ cmpB a b < 0 ∧ a ≠ b ∧ lessB a b = true ∨ 0 < cmpB a b ∧ a ≠ b ∧ lessB a b = false := by
  have h := cmpB_less a b
  rcases Int.lt_trichotomy (cmpB a b) 0 with h1 | h1 | h1
  · exact .inr (.inl ⟨h1, fun e => by subst e; rw [cmpB_self] at h1; omega, by rw [← h]; exact decide_eq_true h1⟩)
  · exact .inl ⟨h1, cmpB_zero h1⟩
  · exact .inr (.inr ⟨h1, fun e => by subst e; rw [cmpB_self] at h1; omega, by rw [← h]; exact decide_eq_false (by omega)⟩)
/-- What slices.Compare gives. -/
def cmpV : List ByteArray → List ByteArray → Int
  | [], [] => 0
  | [], _ :: _ => -1
  | _ :: _, [] => 1
  | a :: x, b :: y => if cmpB a b = 0 then cmpV x y else cmpB a b
theorem cmpV_at : ∀ {a b : List ByteArray} {k : Nat} (h1 : k < a.length) (h2 : k < b.length), (∀ j (hj : j < k), (a[j]'(by omega)) = (b[j]'(by omega))) → cmpB a[k] b[k] ≠ 0 → cmpV a b = cmpB a[k] b[k]
  | [], _, _, h, _, _, _ => by simp at h
  | _ :: _, [], _, _, h, _, _ => by simp at h
  | x :: a, y :: b, 0, _, _, _, hne => by
    rw [cmpV, if_neg (by simpa using hne)]; rfl
  | x :: a, y :: b, k + 1, h1, h2, he, hne => by
    have h0 : x = y := he 0 (by omega)
    rw [cmpV, if_pos (by rw [h0]; exact cmpB_self _)]
    exact cmpV_at (k := k) (by simpa using h1) (by simpa using h2) (fun j hj => by have := he (j + 1) (by omega); simpa using this) (by simpa using hne)
theorem cmpV_end : ∀ {a b : List ByteArray}, (∀ j (h1 : j < a.length) (h2 : j < b.length), a[j] = b[j]) → cmpV a b = if b.length < a.length then 1 else if a.length < b.length then -1 else 0
  | [], [], _ => rfl
  | [], _ :: _, _ => by simp [cmpV]
  | _ :: _, [], _ => by simp [cmpV]
  | x :: a, y :: b, h => by
    have h0 : x = y := h 0 (by simp) (by simp)
    rw [cmpV, if_pos (by rw [h0]; exact cmpB_self _), cmpV_end (a := a) (b := b) (fun j h1 h2 => by have := h (j + 1) (by simpa using h1) (by simpa using h2); simpa using this)]
    simp
theorem cmpV_way : ∀ a b : List ByteArray, cmpV a b = 0 ∧ a = b ∨ cmpV a b < 0 ∧ a ≠ b ∧ lessV a b = true ∨ 0 < cmpV a b ∧ a ≠ b ∧ lessV a b = false
  | [], [] => .inl ⟨rfl, rfl⟩
  | [], _ :: _ => .inr (.inl ⟨by rw [cmpV]; decide, by simp, rfl⟩)
  | _ :: _, [] => .inr (.inr ⟨by rw [cmpV]; decide, by simp, rfl⟩)
  | a :: x, b :: y => by
    rw [cmpV, lessV]
    rcases cmpB_way a b with ⟨h1, h2⟩ | ⟨h1, h2, h3⟩ | ⟨h1, h2, h3⟩
    · rw [if_pos h1, if_pos h2]
      subst h2
      rcases cmpV_way x y with ⟨g1, g2⟩ | ⟨g1, g2, g3⟩ | ⟨g1, g2, g3⟩
      · exact .inl ⟨g1, by rw [g2]⟩
      · exact .inr (.inl ⟨g1, by simpa using g2, g3⟩)
      · exact .inr (.inr ⟨g1, by simpa using g2, g3⟩)
    · rw [if_neg (by omega), if_neg h2]
      exact .inr (.inl ⟨h1, by simp [h2], h3⟩)
    · rw [if_neg (by omega), if_neg h2]
      exact .inr (.inr ⟨h1, by simp [h2], h3⟩)
/-- What cmp.Or gives of three. -/
def orI (a b c : Int) : Int := if a = 0 then (if b = 0 then c else b) else a
def cmpN (a b : Need) : Int := orI (cmpB a.key b.key) (arith.cmpF a.op b.op) (cmpV a.values b.values)
theorem need_ext {a b : Need} (h1 : a.key = b.key) (h2 : a.op = b.op) (h3 : a.values = b.values) : a = b := by
  cases a; cases b
  simp only at h1 h2 h3
  rw [h1, h2, h3]
theorem cmpN_way (a b : Need) : cmpN a b = 0 ∧ a = b ∨ cmpN a b < 0 ∧ a ≠ b ∧ lessN a b = true ∨ 0 < cmpN a b ∧ a ≠ b ∧ lessN a b = false := by
  unfold cmpN lessN orI arith.cmpF
  rcases cmpB_way a.key b.key with ⟨h1, h2⟩ | ⟨h1, h2, h3⟩ | ⟨h1, h2, h3⟩
  · rw [if_pos h1, if_pos h2]
    by_cases ho : a.op = b.op
    · rw [if_neg (show ¬ a.op < b.op by omega), if_neg (show ¬ b.op < a.op by omega), if_pos rfl, if_pos ho]
      rcases cmpV_way a.values b.values with ⟨g1, g2⟩ | ⟨g1, g2, g3⟩ | ⟨g1, g2, g3⟩
      · exact .inl ⟨g1, need_ext h2 ho g2⟩
      · exact .inr (.inl ⟨g1, fun e => g2 (by rw [e]), g3⟩)
      · exact .inr (.inr ⟨g1, fun e => g2 (by rw [e]), g3⟩)
    · rw [if_neg ho]
      by_cases h : a.op < b.op
      · rw [if_pos h]
        exact .inr (.inl ⟨by rw [if_neg (by omega)]; omega, fun e => ho (by rw [e]), decide_eq_true h⟩)
      · rw [if_neg h, if_pos (show b.op < a.op by omega)]
        exact .inr (.inr ⟨by rw [if_neg (by omega)]; omega, fun e => ho (by rw [e]), decide_eq_false h⟩)
  · rw [if_neg (by omega), if_neg h2]
    exact .inr (.inl ⟨h1, fun e => h2 (by rw [e]), h3⟩)
  · rw [if_neg (by omega), if_neg h2]
    exact .inr (.inr ⟨h1, fun e => h2 (by rw [e]), h3⟩)
theorem cmpN_less (a b : Need) : decide (cmpN a b < 0) = lessN a b := by
  rcases cmpN_way a b with ⟨h1, h2⟩ | ⟨h1, _, h3⟩ | ⟨h1, _, h3⟩
  · subst h2; rw [h1, lessN_irr]; rfl
  · rw [h3]; exact decide_eq_true h1
  · rw [h3]; exact decide_eq_false (by omega)
theorem cmpN_zero (a b : Need) : decide (cmpN a b = 0) = yes (a = b) := by
  rcases cmpN_way a b with ⟨h1, h2⟩ | ⟨h1, h2, h3⟩ | ⟨h1, h2, h3⟩
  · rw [yes_t h2]; exact decide_eq_true h1
  · rw [yes_f h2]; exact decide_eq_false (by omega)
  · rw [yes_f h2]; exact decide_eq_false (by omega)
theorem bd_cmpL : ∀ a b : List UInt8, -1 ≤ Lib.compareBytes a b ∧ Lib.compareBytes a b ≤ 1
  | [], [] => by simp [Lib.compareBytes]
  | [], _ :: _ => by simp [Lib.compareBytes]
  | _ :: _, [] => by simp [Lib.compareBytes]
  | a :: x, b :: y => by
    rw [Lib.compareBytes]
    by_cases h1 : a < b
    · rw [if_pos h1]; omega
    · rw [if_neg h1]
      by_cases h2 : b < a
      · rw [if_pos h2]; omega
      · rw [if_neg h2]; exact bd_cmpL x y
end Go.Proofs.YtjcfaepklakpkaaDoor.need
