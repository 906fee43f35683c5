/- Fields of a manifest: impl's way (a reader of the value, an error beside it), plain mathematics. -/
import Derived.Test.YtangdmjdjiddcaaDoorGA1
namespace Go.Proofs.YtangdmjdjiddcaaDoor.field
open Go tree
set_option linter.unusedVariables false

/-- What impl.fieldIn hands back: the reader's result, or an error with its place. -/
def inF {α : Type} (z : α) (rd : T → α × Int) (t : T) (p k : ByteArray) : α × Option Flt :=
  if (kidOf t k).2 = false then (z, some (12, pathKey p k)) else if (rd (kidOf t k).1).2 ≠ 0 then (z, some ((rd (kidOf t k).1).2, pathKey p k)) else ((rd (kidOf t k).1).1, none)
def flt (o : Option Flt) : Flt := o.getD good
/-- impl.orUsual. -/
def usF {α : Type} (r : α × Option Flt) (us : α) : α × Flt := if (flt r.2).1 = 12 then (us, good) else (r.1, flt r.2)
def textR (K : T) : ByteArray × Int := if K.kind ≠ 4 then (⟨#[]⟩, 11) else (K.text, 0)
def wholeR (lo hi : Int) (K : T) : Int × Int := if K.kind ≠ 3 then (0, 11) else if K.num < lo ∨ hi < K.num then (0, 15) else (K.num, 0)
noncomputable def amtR (s : ByteArray) : Int × Int := if (amount.readF s).2 = 1 then (0, 14) else if (amount.readF s).2 ≠ 0 then (0, 15) else ((amount.readF s).1, 0)
def numR (n : Int) : Int × Int := if n < 0 then (0, 14) else match arith.mulF n 1000 with
  | none => (0, 15)
  | some x => (x, 0)
noncomputable def amountR (K : T) : Int × Int := if K.kind = 4 then amtR K.text else if K.kind = 3 then numR K.num else (0, 11)
def listR (most : Int) (K : T) : List T × Int := if K.kind ≠ 5 then ([], 11) else if most < (K.kids.length : Int) then ([], 16) else (K.kids, 0)
def mapR (K : T) : T × Int := if K.kind ≠ 6 then (zero, 11) else (K, 0)
theorem in_none {α : Type} {z : α} {rd : T → α × Int} {t : T} {p k : ByteArray} (h : (kidOf t k).2 = false) : inF z rd t p k = (z, some (12, pathKey p k)) := if_pos h
theorem in_bad {α : Type} {z : α} {rd : T → α × Int} {t : T} {p k : ByteArray} {r : α} {c : Int} (h : ¬ (kidOf t k).2 = false) (hr : rd (kidOf t k).1 = (r, c)) (hc : c ≠ 0) : inF z rd t p k = (z, some (c, pathKey p k)) := by
  unfold inF
  rw [if_neg h, hr, if_pos hc]
theorem in_ok {α : Type} {z : α} {rd : T → α × Int} {t : T} {p k : ByteArray} {r : α} (h : ¬ (kidOf t k).2 = false) (hr : rd (kidOf t k).1 = (r, 0)) : inF z rd t p k = (r, none) := by
  unfold inF
  rw [if_neg h, hr, if_neg (by simp)]
theorem us_none {α : Type} (z us : α) (q : ByteArray) : usF (z, some (12, q)) us = (us, good) := if_pos rfl
theorem us_bad {α : Type} (z us : α) {c : Int} (q : ByteArray) (h : c ≠ 12) : usF (z, some (c, q)) us = (z, (c, q)) := if_neg h
theorem us_ok {α : Type} (r us : α) : usF (r, none) us = (r, good) := if_neg (by show ¬ ((0 : Int) = 12); decide)
theorem text_in (t : T) (p k : ByteArray) : textF t p k = ((inF ⟨#[]⟩ textR t p k).1, flt (inF ⟨#[]⟩ textR t p k).2) := by
  unfold textF
  by_cases h : (kidOf t k).2 = false
  · rw [if_pos h, in_none h]; rfl
  · rw [if_neg h]
    by_cases h4 : (kidOf t k).1.kind ≠ 4
    · rw [if_pos h4, in_bad h (if_pos h4) (by decide)]; rfl
    · rw [if_neg h4, in_ok h (if_neg h4)]; rfl
theorem whole_in (t : T) (p k : ByteArray) (lo hi us : Int) : wholeF t p k lo hi us = usF (inF 0 (wholeR lo hi) t p k) us := by
  unfold wholeF
  by_cases h : (kidOf t k).2 = false
  · rw [if_pos h, in_none h, us_none]
  · rw [if_neg h]
    by_cases h4 : (kidOf t k).1.kind ≠ 3
    · rw [if_pos h4, in_bad h (if_pos h4) (by decide), us_bad _ _ _ (by decide)]
    · rw [if_neg h4]
      by_cases hr : lo ≤ (kidOf t k).1.num ∧ (kidOf t k).1.num ≤ hi
      · rw [if_neg (by simpa using hr), in_ok h ((if_neg h4).trans (if_neg (by omega))), us_ok]
      · rw [if_pos hr, in_bad h ((if_neg h4).trans (if_pos (by omega))) (by decide), us_bad _ _ _ (by decide)]
theorem amount_in (t : T) (p k : ByteArray) : amountF t p k = ((inF 0 amountR t p k).1, flt (inF 0 amountR t p k).2) := by
  unfold amountF
  by_cases h : (kidOf t k).2 = false
  · rw [if_pos h, in_none h]; rfl
  · rw [if_neg h]
    by_cases h4 : (kidOf t k).1.kind = 4
    · rw [if_pos h4]
      have e : amountR (kidOf t k).1 = amtR (kidOf t k).1.text := if_pos h4
      unfold amtF
      by_cases h1 : (amount.readF (kidOf t k).1.text).2 = 1
      · rw [if_pos h1, in_bad h (e.trans (if_pos h1)) (by decide)]; rfl
      · rw [if_neg h1]
        by_cases h2 : (amount.readF (kidOf t k).1.text).2 ≠ 0
        · rw [if_pos h2, in_bad h (e.trans ((if_neg h1).trans (if_pos h2))) (by decide)]; rfl
        · rw [if_neg h2, in_ok h (e.trans ((if_neg h1).trans (if_neg h2)))]; rfl
    · rw [if_neg h4]
      by_cases h3 : (kidOf t k).1.kind = 3
      · rw [if_pos h3]
        have e : amountR (kidOf t k).1 = numR (kidOf t k).1.num := (if_neg h4).trans (if_pos h3)
        unfold numF
        by_cases h0 : (kidOf t k).1.num < 0
        · rw [if_pos h0, in_bad h (e.trans (if_pos h0)) (by decide)]; rfl
        · rw [if_neg h0]
          have e2 : numR (kidOf t k).1.num = (match arith.mulF (kidOf t k).1.num 1000 with
            | none => (0, 15)
            | some x => (x, 0)) := if_neg h0
          cases hm : arith.mulF (kidOf t k).1.num 1000 with
          | none => rw [in_bad h (e.trans (e2.trans (by rw [hm]))) (by decide)]; rfl
          | some x => rw [in_ok h (e.trans (e2.trans (by rw [hm])))]; rfl
      · rw [if_neg h3, in_bad h ((if_neg h4).trans (if_neg h3)) (by decide)]; rfl
theorem list_in (t : T) (p k : ByteArray) (most : Int) : listF t p k most = usF (inF [] (listR most) t p k) [] := by
  unfold listF
  by_cases h : (kidOf t k).2 = false
  · rw [if_pos h, in_none h, us_none]
  · rw [if_neg h]
    by_cases h4 : (kidOf t k).1.kind ≠ 5
    · rw [if_pos h4, in_bad h (if_pos h4) (by decide), us_bad _ _ _ (by decide)]
    · rw [if_neg h4]
      by_cases hr : most < ((kidOf t k).1.kids.length : Int)
      · rw [if_pos hr, in_bad h ((if_neg h4).trans (if_pos hr)) (by decide), us_bad _ _ _ (by decide)]
      · rw [if_neg hr, in_ok h ((if_neg h4).trans (if_neg hr)), us_ok]
theorem map_in (t : T) (p k : ByteArray) : mapF t p k = usF (inF zero mapR t p k) (.mk 6 false 0 ⟨#[]⟩ [] []) := by
  unfold mapF
  by_cases h : (kidOf t k).2 = false
  · rw [if_pos h, in_none h, us_none]
  · rw [if_neg h]
    by_cases h4 : (kidOf t k).1.kind ≠ 6
    · rw [if_pos h4, in_bad h (if_pos h4) (by decide), us_bad _ _ _ (by decide)]
    · rw [if_neg h4, in_ok h (if_neg h4), us_ok]
end Go.Proofs.YtangdmjdjiddcaaDoor.field
