/- Quantities, plain: what ReadAmount, AmountText, NormalAmount and CompareAmounts return. -/
import Derived.Test.YtangdmjdjiddcaaDoorGA0
namespace Go.Proofs.YtangdmjdjiddcaaDoor.amount
open Go.ChangeShapes Go.WideShapes Go.ChangeAt Go.RowKit
set_option linter.unusedVariables false

noncomputable def readG (f r : ByteArray) : Int × Int :=
  match unit.unitF r with
  | none => (0, 1)
  | some u => if f.size = 0 ∨ (1 < f.size ∧ at_ f 0 = 48) then (0, 1)
    else if readnum.flag 9223372036854775807 f = true then
      match arith.mulF (readnum.res 9223372036854775807 f) u with
      | some x => (x, 0)
      | none => (0, 2)
    else (0, 2)
noncomputable def readF (s : ByteArray) : Int × Int := if 40 < s.size then (0, 1) else readG (split.fst s) (split.snd s)
theorem g_unit {f r : ByteArray} (h : unit.unitF r = none) : readG f r = (0, 1) := by unfold readG; rw [h]
theorem g_form {f r : ByteArray} (h : f.size = 0 ∨ (1 < f.size ∧ at_ f 0 = 48)) : readG f r = (0, 1) := by
  unfold readG
  split
  · rfl
  · rw [if_pos h]
theorem g_far {f r : ByteArray} {u : Int} (hu : unit.unitF r = some u) (h : ¬ (f.size = 0 ∨ (1 < f.size ∧ at_ f 0 = 48))) (hf : readnum.flag 9223372036854775807 f = false) : readG f r = (0, 2) := by
  unfold readG
  rw [hu]
  simp only
  rw [if_neg h, hf]
  rfl
theorem g_much {f r : ByteArray} {u : Int} (hu : unit.unitF r = some u) (h : ¬ (f.size = 0 ∨ (1 < f.size ∧ at_ f 0 = 48))) (hf : readnum.flag 9223372036854775807 f = true) (hm : arith.mulF (readnum.res 9223372036854775807 f) u = none) : readG f r = (0, 2) := by
  unfold readG
  rw [hu]
  simp only
  rw [if_neg h, if_pos hf, hm]
theorem g_yes {f r : ByteArray} {u x : Int} (hu : unit.unitF r = some u) (h : ¬ (f.size = 0 ∨ (1 < f.size ∧ at_ f 0 = 48))) (hf : readnum.flag 9223372036854775807 f = true) (hm : arith.mulF (readnum.res 9223372036854775807 f) u = some x) : readG f r = (x, 0) := by
  unfold readG
  rw [hu]
  simp only
  rw [if_neg h, if_pos hf, hm]
theorem read_long {s : ByteArray} (h : 40 < s.size) : readF s = (0, 1) := by unfold readF; rw [if_pos h]
theorem read_short {s : ByteArray} (h : ¬ 40 < s.size) : readF s = readG (split.fst s) (split.snd s) := by unfold readF; rw [if_neg h]
theorem readG_bd (f r : ByteArray) : 0 ≤ (readG f r).1 ∧ (readG f r).1 ≤ 9223372036854775807 ∧ ((readG f r).2 = 0 ∨ (readG f r).2 = 1 ∨ (readG f r).2 = 2) := by
  unfold readG
  split
  · exact ⟨by decide, by decide, by decide⟩
  · split
    · exact ⟨by decide, by decide, by decide⟩
    · split
      · split
        · next h =>
          have := arith.mul_bd h
          exact ⟨by omega, by omega, .inl rfl⟩
        · exact ⟨by decide, by decide, by decide⟩
      · exact ⟨by decide, by decide, by decide⟩
theorem read_bd (s : ByteArray) : 0 ≤ (readF s).1 ∧ (readF s).1 ≤ 9223372036854775807 ∧ ((readF s).2 = 0 ∨ (readF s).2 = 1 ∨ (readF s).2 = 2) := by
  unfold readF
  split
  · exact ⟨by decide, by decide, by decide⟩
  · exact readG_bd _ _
/-- The bounds of what the digits spell. -/
theorem res_bd (f : ByteArray) : 0 ≤ readnum.res 9223372036854775807 f ∧ readnum.res 9223372036854775807 f ≤ 9223372036854775807 := by
  by_cases h : ∃ n, readnum.Num 9223372036854775807 f n
  · obtain ⟨n, hn⟩ := h
    rw [readnum.yes_res hn]
    have := hn.1
    omega
  · rw [readnum.no_res (fun n hn => h ⟨n, hn⟩)]
    omega

/-- How often a number is divided by 1024, at most f times more of four. -/
def dv : Nat → Nat → Nat × Nat
  | 0, u => (u, 4)
  | f + 1, u => if 0 < u ∧ u % 1024 = 0 then dv f (u / 1024) else (u, 3 - f)
theorem dv_go {f u : Nat} (h0 : 0 < u) (h1 : u % 1024 = 0) : dv (f + 1) u = dv f (u / 1024) := by rw [dv, if_pos ⟨h0, h1⟩]
theorem dv_no {f u : Nat} (h : ¬ (0 < u ∧ u % 1024 = 0)) : dv (f + 1) u = (u, 3 - f) := by rw [dv, if_neg h]
theorem dv_next {k u : Nat} (hk : k < 4) (h0 : 0 < u) (h1 : u % 1024 = 0) : dv (4 - k) u = dv (4 - (k + 1)) (u / 1024) := by
  have e : 4 - k = 4 - (k + 1) + 1 := by omega
  rw [e, dv_go h0 h1]
theorem dv_end {k u : Nat} (hk : k ≤ 4) (h : k = 4 ∨ ¬ (0 < u ∧ u % 1024 = 0)) : dv (4 - k) u = (u, k) := by
  by_cases e4 : k = 4
  · subst e4; rfl
  · have e : 4 - k = 3 - k + 1 := by omega
    rw [e, dv_no (h.resolve_left e4)]
    have e3 : 3 - (3 - k) = k := by omega
    rw [e3]
theorem dv_val : ∀ (f u : Nat), f ≤ 4 → ∃ k, k ≤ f ∧ (dv f u).2 = 4 - f + k ∧ (dv f u).1 * 1024 ^ k = u
  | 0, u, _ => ⟨0, Nat.le_refl _, rfl, by simp [dv]⟩
  | f + 1, u, h => by
    by_cases hc : 0 < u ∧ u % 1024 = 0
    · rw [dv, if_pos hc]
      obtain ⟨k, h1, h2, h3⟩ := dv_val f (u / 1024) (by omega)
      refine ⟨k + 1, by omega, by omega, ?_⟩
      rw [Nat.pow_succ, ← Nat.mul_assoc, h3]
      omega
    · rw [dv, if_neg hc]
      exact ⟨0, by omega, by show 3 - f = _; omega, by simp⟩
theorem dv_le (f u : Nat) (h : f ≤ 4) : (dv f u).1 ≤ u ∧ (dv f u).2 ≤ 4 := by
  obtain ⟨k, h1, h2, h3⟩ := dv_val f u h
  refine ⟨?_, by omega⟩
  have : 1 ≤ 1024 ^ k := Nat.one_le_pow _ _ (by decide)
  calc (dv f u).1 = (dv f u).1 * 1 := by omega
    _ ≤ (dv f u).1 * 1024 ^ k := Nat.mul_le_mul_left _ this
    _ = u := h3
def sufs : List (List UInt8) := [[], [75, 105], [77, 105], [71, 105], [84, 105]]
def suf (k : Nat) : List UInt8 := sufs.getD k []
theorem suf_len : ∀ k, k ≤ 4 → (suf k).length ≤ 2 := by decide
theorem itoa_len (u : Nat) (h : u ≤ 9223372036854775807) : (Lib.itoa (u : Int)).length ≤ 19 := by
  rw [num.itoa_nat]
  exact num.dec_len 18 u (by omega)
theorem room_suf (u k : Nat) (h : u ≤ 9223372036854775807) (hk : k ≤ 4) : ¬ 9223372036854775807 < (Lib.itoa (u : Int)).length + (suf k).length := by
  have := itoa_len u h
  have := suf_len k hk
  omega
theorem room_one (n : Int) (h0 : 0 ≤ n) (h : n ≤ 9223372036854775807) : ¬ 9223372036854775807 < (Lib.itoa n).length + 1 := by
  obtain ⟨u, rfl⟩ := Int.eq_ofNat_of_zero_le h0
  have := itoa_len u (by omega)
  omega
def textL (n : Int) : List UInt8 := if n < 0 then [] else if n % 1000 ≠ 0 then Lib.itoa n ++ [109] else Lib.itoa ((dv 4 (n / 1000).toNat).1 : Int) ++ suf (dv 4 (n / 1000).toNat).2
def textF (n : Int) : ByteArray := ⟨(textL n).toArray⟩
theorem text_neg {n : Int} (h : n < 0) : textF n = ⟨#[]⟩ := by unfold textF textL; rw [if_pos h]
theorem text_odd {n : Int} (h : ¬ n < 0) (h1 : n % 1000 ≠ 0) : textF n = ⟨(Lib.itoa n).toArray⟩ ++ ⟨#[109]⟩ := by
  unfold textF textL
  rw [if_neg h, if_pos h1]
  exact (bytes_append _ [109]).symm
theorem text_even {n : Int} (h : ¬ n < 0) (h1 : n % 1000 = 0) : textF n = ⟨(Lib.itoa ((dv 4 (n / 1000).toNat).1 : Int)).toArray⟩ ++ ⟨(suf (dv 4 (n / 1000).toNat).2).toArray⟩ := by
  unfold textF textL
  rw [if_neg h, if_neg (fun e => e h1)]
  exact (bytes_append _ _).symm

noncomputable def normF (s : ByteArray) : ByteArray × Int := if (readF s).2 = 0 then (textF (readF s).1, 0) else (⟨#[]⟩, (readF s).2)
noncomputable def ordF (a b : ByteArray) : Int × Bool := if (readF a).2 = 0 ∧ (readF b).2 = 0 then (arith.cmpF (readF a).1 (readF b).1, true) else (0, false)
end Go.Proofs.YtangdmjdjiddcaaDoor.amount
