/- ReadWhole, plain: the digits from a place on, what they spell, and how strconv ends at them. -/
import Derived.Test.YtegpcjkcejijpaaDoorNumTop
import Derived.Test.YtegpcjkcejijpaaDoorSplitM
import Derived.Lib.AtoiAllCases
namespace Go.Proofs.YtegpcjkcejijpaaDoor.whole
open Go Go.RowKit
set_option linter.unusedVariables false

/-- How many digits stand from place p on. -/
def run (s : ByteArray) (p : Nat) : Nat := split.ld (s.data.toList.drop p)
def figs (s : ByteArray) (p : Nat) : List UInt8 := (s.data.toList.drop p).take (run s p)
def bad (s : ByteArray) (p : Nat) : Prop := run s p = 0 ∨ (1 < run s p ∧ at_ s p = 48) ∨ (p + run s p < s.size ∧ (at_ s (p + run s p) = 46 ∨ at_ s (p + run s p) = 101 ∨ at_ s (p + run s p) = 69))
instance (s : ByteArray) (p : Nat) : Decidable (bad s p) := by unfold bad; exact inferInstance
def head (s : ByteArray) (a : Nat) : Nat := if at_ s a = 45 then a + 1 else a
def spells (s : ByteArray) (p : Nat) : Nat := num.foldD 0 (figs s p)
def wholeN (s : ByteArray) (a : Nat) : Int × Int :=
  if bad s (head s a) then (0, -1)
  else if at_ s a = 45 then (if spells s (a + 1) ≤ 9223372036854775808 then (-(spells s (a + 1) : Int), ((a + 1 + run s (a + 1) : Nat) : Int)) else (0, -1))
  else if spells s a ≤ 9223372036854775807 then ((spells s a : Int), ((a + run s a : Nat) : Int)) else (0, -1)
def wholeF (s : ByteArray) (a : Int) : Int × Int := if 0 ≤ a ∧ a < s.size then wholeN s a.toNat else (0, -1)
theorem whole_out {s : ByteArray} {a : Int} (h : ¬ (0 ≤ a ∧ a < s.size)) : wholeF s a = (0, -1) := if_neg h
theorem whole_in {s : ByteArray} {a : Nat} (h : a < s.size) : wholeF s (a : Int) = wholeN s a := by
  unfold wholeF
  rw [if_pos ⟨by omega, by omega⟩, Int.toNat_natCast]

theorem run_le (s : ByteArray) (p : Nat) (hp : p ≤ s.size) : p + run s p ≤ s.size := by
  have h := split.ld_le (s.data.toList.drop p)
  have e : s.data.toList.length = s.size := by simp
  rw [List.length_drop, e] at h
  unfold run
  omega
theorem getD_drop (l : List UInt8) (p k : Nat) : (l.drop p).getD k 0 = l.getD (p + k) 0 := by
  simp [List.getD_eq_getElem?_getD, List.getElem?_drop]
theorem dig_at2 (s : ByteArray) (p k : Nat) : split.dig ((s.data.toList.drop p).getD k 0) = true ↔ 48 ≤ at_ s (p + k) ∧ at_ s (p + k) ≤ 57 := by
  rw [getD_drop]; exact split.dig_at s (p + k)
theorem run_dig {s : ByteArray} {p k : Nat} (h : k < run s p) : 48 ≤ at_ s (p + k) ∧ at_ s (p + k) ≤ 57 := (dig_at2 s p k).1 (split.ld_dig _ _ h)
theorem run_stop {s : ByteArray} {p : Nat} (h : p + run s p < s.size) : ¬ (48 ≤ at_ s (p + run s p) ∧ at_ s (p + run s p) ≤ 57) := fun e => by
  have e2 : s.data.toList.length = s.size := by simp
  have h1 := split.ld_stop (s.data.toList.drop p) (by rw [List.length_drop, e2]; unfold run at h; omega)
  have h2 := (dig_at2 s p (run s p)).2 e
  unfold run at h2
  rw [h1] at h2
  cases h2
theorem run_go {s : ByteArray} {p k : Nat} (h : k ≤ run s p) (hk : p + k < s.size) (h1 : 48 ≤ at_ s (p + k)) (h2 : at_ s (p + k) ≤ 57) : k + 1 ≤ run s p := by
  by_cases e : k = run s p
  · subst e; exact absurd ⟨h1, h2⟩ (run_stop hk)
  · omega
theorem run_end {s : ByteArray} {p k : Nat} (hp : p ≤ s.size) (h : k ≤ run s p) (hk : s.size ≤ p + k ∨ at_ s (p + k) < 48 ∨ 57 < at_ s (p + k)) : run s p = k := by
  by_cases e : k < run s p
  · have h1 := run_dig e
    have h2 := run_le s p hp
    omega
  · omega
theorem figs_length (s : ByteArray) (p : Nat) : (figs s p).length = run s p := by
  unfold figs run
  rw [List.length_take]
  have := split.ld_le (s.data.toList.drop p)
  omega
theorem figs_get (s : ByteArray) (p k : Nat) (h : k < run s p) : (((figs s p).getD k 0).toNat : Int) = at_ s (p + k) := by
  unfold figs at_
  rw [List.getD_eq_getElem?_getD, List.getElem?_take_of_lt h, List.getElem?_drop, List.getD_eq_getElem?_getD]
theorem figs_isD (s : ByteArray) (p : Nat) : ∀ c ∈ figs s p, num.isD c := by
  intro c hc
  obtain ⟨k, hk, rfl⟩ := List.getElem_of_mem hc
  have hk2 : k < run s p := by rw [figs_length] at hk; exact hk
  have h1 := run_dig hk2
  have h2 := figs_get s p k hk2
  rw [List.getD_eq_getElem?_getD, List.getElem?_eq_getElem hk, Option.getD_some] at h2
  unfold num.isD
  omega
theorem figs_extract (s : ByteArray) (p : Nat) : (s.extract p (p + run s p)).data.toList = figs s p := by
  rw [ByteArray.data_extract, Array.toList_extract, List.extract_eq_take_drop, Nat.add_sub_cancel_left]
  rfl
/-- No needless nought stands first. -/
def canon (l : List UInt8) : Prop := l ≠ [] ∧ (∀ c ∈ l, num.isD c) ∧ (l.length = 1 ∨ (l.getD 0 0).toNat ≠ 48)
theorem figs_canon {s : ByteArray} {p : Nat} (h : ¬ bad s p) : canon (figs s p) := by
  unfold bad at h
  refine ⟨fun e => h (.inl ?_), figs_isD s p, ?_⟩
  · rw [← figs_length, e]; rfl
  · rw [figs_length]
    by_cases e : run s p = 1
    · exact .inl e
    · right
      intro e2
      have h0 : 0 < run s p := by
        rcases Nat.eq_zero_or_pos (run s p) with e0 | e0
        · exact absurd (.inl e0) h
        · exact e0
      have := figs_get s p 0 h0
      rw [Nat.add_zero] at this
      exact h (.inr (.inl ⟨by omega, by omega⟩))
theorem fold_pos {l : List UInt8} (h : l ≠ []) (hd : ∀ c ∈ l, num.isD c) (h0 : (l.getD 0 0).toNat ≠ 48) : 1 ≤ num.foldD 0 l := by
  cases l with
  | nil => exact absurd rfl h
  | cons c r =>
    rw [num.foldD_cons]
    have h1 := hd c (List.mem_cons_self ..)
    unfold num.isD at h1
    simp at h0
    have h2 := num.foldD_ge r (10 * 0 + (c.toNat - 48))
    omega
theorem digit_one (c : UInt8) (h : num.isD c) : Lib.decDigits (c.toNat - 48) = [c] := by
  unfold num.isD at h
  rw [Lib.decDigits, dif_pos (by omega)]
  congr 1
  apply UInt8.toNat.inj
  have := c.toNat_lt
  simp
  omega
theorem canon_snoc : ∀ (n : Nat) (l : List UInt8), l.length = n → canon l → l = Lib.decDigits (num.foldD 0 l) := by
  intro n
  induction n with
  | zero => intro l hl h; exact absurd (List.eq_nil_of_length_eq_zero hl) h.1
  | succ n ih =>
    intro l hl h
    obtain ⟨r, c, rfl⟩ : ∃ r c, l = r ++ [c] := ⟨l.dropLast, l.getLast h.1, (List.dropLast_concat_getLast h.1).symm⟩
    have hc : num.isD c := h.2.1 c (by simp)
    have hr : r.length = n := by simpa using hl
    rw [num.foldD_snoc]
    have hc' := hc
    unfold num.isD at hc'
    cases r with
    | nil =>
      rw [num.foldD_nil]
      have := digit_one c hc
      simpa using this.symm
    | cons a r =>
      have ha : (a.toNat) ≠ 48 := by
        rcases h.2.2 with h1 | h1
        · simp at h1
        · simpa using h1
      have hcan : canon (a :: r) := ⟨by simp, fun x hx => h.2.1 x (List.mem_append_left _ hx), .inr (by simpa using ha)⟩
      have e := ih (a :: r) hr hcan
      have hp := fold_pos hcan.1 hcan.2.1 (by simpa using ha)
      generalize num.foldD 0 (a :: r) = u at e hp ⊢
      rw [Lib.decDigits, dif_neg (by omega), show (10 * u + (c.toNat - 48)) / 10 = u by omega, ← e]
      congr 1
      congr 1
      apply UInt8.toNat.inj
      have := c.toNat_lt
      simp
      omega
theorem canon_dec {l : List UInt8} (h : canon l) : l = Lib.decDigits (num.foldD 0 l) := canon_snoc _ l rfl h

theorem parse_any : ∀ (l : List UInt8) (acc : Nat), (∀ c ∈ l, num.isD c) → acc < 18446744073709551616 → Lib.parseUint10 acc l = if num.foldD acc l < 18446744073709551616 then .ok (num.foldD acc l) else .range
  | [], acc, _, h => by rw [num.foldD_nil, if_pos h]; rfl
  | c :: r, acc, hd, h => by
    have hc := hd c (List.mem_cons_self ..)
    unfold num.isD at hc
    rw [num.foldD_cons]
    have hge := num.foldD_ge r (10 * acc + (c.toNat - 48))
    rw [Lib.parseUint10, if_pos hc]
    by_cases h1 : 1844674407370955162 ≤ acc
    · rw [if_pos h1, if_neg (by omega)]
    rw [if_neg h1]
    by_cases h2 : 18446744073709551616 ≤ acc * 10 + (c.toNat - 48)
    · rw [if_pos h2, if_neg (by omega)]
    · rw [if_neg h2, show acc * 10 + (c.toNat - 48) = 10 * acc + (c.toNat - 48) by omega]
      exact parse_any r _ (fun x hx => hd x (List.mem_cons_of_mem _ hx)) (by omega)
theorem mag_any {l : List UInt8} (h : canon l) : Lib.parseMag l = if num.foldD 0 l < 18446744073709551616 then .ok (num.foldD 0 l) else .range := by
  unfold Lib.parseMag
  rw [if_neg h.1]
  exact parse_any l 0 h.2.1 (by omega)
theorem atoi_plain {l : List UInt8} (h : canon l) : Lib.atoiAll l = if num.foldD 0 l ≤ 9223372036854775807 then .ok (num.foldD 0 l : Int) else .range := by
  have hm := mag_any h
  cases l with
  | nil => exact absurd rfl h.1
  | cons c r =>
    have hc := h.2.1 c (List.mem_cons_self ..)
    unfold num.isD at hc
    rw [Lib.atoiAll_plain c r (by omega) (by omega), hm]
    generalize num.foldD 0 (c :: r) = u
    by_cases h1 : u < 18446744073709551616
    · rw [if_pos h1]
      show (if 9223372036854775808 ≤ u then _ else _) = _
      by_cases h2 : u ≤ 9223372036854775807
      · rw [if_neg (by omega), if_pos h2]
      · rw [if_pos (by omega), if_neg h2]
    · rw [if_neg h1, if_neg (by omega)]; rfl
theorem atoi_minus {l : List UInt8} (h : canon l) : Lib.atoiAll (45 :: l) = if num.foldD 0 l ≤ 9223372036854775808 then .ok (-(num.foldD 0 l : Int)) else .range := by
  have hm := mag_any h
  rw [Lib.atoiAll_minus l, hm]
  generalize num.foldD 0 l = u
  by_cases h1 : u < 18446744073709551616
  · rw [if_pos h1]
    show (if 9223372036854775808 < u then _ else _) = _
    by_cases h2 : u ≤ 9223372036854775808
    · rw [if_neg (by omega), if_pos h2]
    · rw [if_pos (by omega), if_neg h2]
  · rw [if_neg h1, if_neg (by omega)]; rfl
theorem num_canon {t : ByteArray} (h : canon t.data.toList) : readnum.flag 9223372036854775807 t = decide (num.foldD 0 t.data.toList ≤ 9223372036854775807) ∧ readnum.res 9223372036854775807 t = if num.foldD 0 t.data.toList ≤ 9223372036854775807 then (num.foldD 0 t.data.toList : Int) else 0 := by
  by_cases h1 : num.foldD 0 t.data.toList ≤ 9223372036854775807
  · have hn : readnum.Num 9223372036854775807 t (num.foldD 0 t.data.toList) := ⟨h1, canon_dec h⟩
    rw [readnum.yes_flag hn, readnum.yes_res hn, if_pos h1, decide_eq_true h1]
    exact ⟨rfl, rfl⟩
  · have hno : ∀ n, ¬ readnum.Num 9223372036854775807 t n := fun n hn => by
      have := hn.2
      rw [this, num.dec_fold] at h1
      exact h1 hn.1
    rw [readnum.no_flag hno, readnum.no_res hno, if_neg h1, decide_eq_false h1]
    exact ⟨rfl, rfl⟩
theorem least_list : Lib.decDigits 9223372036854775808 = [57, 50, 50, 51, 51, 55, 50, 48, 51, 54, 56, 53, 52, 55, 55, 53, 56, 48, 56] := by
  simp [Lib.decDigits]
theorem least_iff {t : ByteArray} (h : canon t.data.toList) : t = ⟨#[57, 50, 50, 51, 51, 55, 50, 48, 51, 54, 56, 53, 52, 55, 55, 53, 56, 48, 56]⟩ ↔ num.foldD 0 t.data.toList = 9223372036854775808 := by
  constructor
  · intro e
    rw [e]
    show num.foldD 0 [57, 50, 50, 51, 51, 55, 50, 48, 51, 54, 56, 53, 52, 55, 55, 53, 56, 48, 56] = _
    decide
  · intro e
    have h1 := canon_dec h
    rw [e, least_list] at h1
    apply ByteArray.ext
    apply Array.ext'
    exact h1
end Go.Proofs.YtegpcjkcejijpaaDoor.whole
