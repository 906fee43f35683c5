/- Merged: WholeM ReadQM SignM SignsM. -/
import Derived.Test.YtlnfbpdicjcpgaaGreatDoorGNum
import Derived.Lib.AtoiAllCases
import Derived.Test.YtlnfbpdicjcpgaaGreatDoorRuneM
import Derived.Lib.AppendStr
namespace Go.Proofs.YtlnfbpdicjcpgaaGreatDoor.whole
open Go Go.RowKit
set_option linter.unusedVariables false

/-- How many digits stand from place p on. -/
def run (s : ByteArray) (p : Nat) : Nat := split.ld (s.data.toList.drop p)
def figs (s : ByteArray) (p : Nat) : List UInt8 := (s.data.toList.drop p).take (run s p)
def bad (s : ByteArray) (p : Nat) : Prop := run s p = 0 ∨ (1 < run s p ∧ at_ s p = 48) ∨ (p + run s p < s.size ∧ (at_ s (p + run s p) = 46 ∨ at_ s (p + run s p) = 101 ∨ at_ s (p + run s p) = 69))
instance (s : ByteArray) (p : Nat) : Decidable (bad s p) := by unfold bad; exact inferInstance
def head (s : ByteArray) (a : Nat) : Nat := if at_ s a = 45 then a + 1 else a
def spells (s : ByteArray) (p : Nat) : Nat := num.foldD 0 (figs s p)
def wholeN (s : ByteArray) (a : Nat) : Int × Int :=
  if bad s (head s a) then (0, -1)
  else if at_ s a = 45 then (if spells s (a + 1) ≤ 9223372036854775808 then (-(spells s (a + 1) : Int), ((a + 1 + run s (a + 1) : Nat) : Int)) else (0, -1))
  else if spells s a ≤ 9223372036854775807 then ((spells s a : Int), ((a + run s a : Nat) : Int)) else (0, -1)
def wholeF (s : ByteArray) (a : Int) : Int × Int := if 0 ≤ a ∧ a < s.size then wholeN s a.toNat else (0, -1)
theorem whole_out {s : ByteArray} {a : Int} (h : ¬ (0 ≤ a ∧ a < s.size)) : wholeF s a = (0, -1) := if_neg h
theorem whole_in {s : ByteArray} {a : Nat} (h : a < s.size) : wholeF s (a : Int) = wholeN s a := by
  unfold wholeF
  rw [if_pos ⟨by omega, by omega⟩, Int.toNat_natCast]

theorem run_le (s : ByteArray) (p : Nat) (hp : p ≤ s.size) : p + run s p ≤ s.size := by
  have h := split.ld_le (s.data.toList.drop p)
  have e : s.data.toList.length = s.size := by simp
  rw [List.length_drop, e] at h
  unfold run
  omega
theorem getD_drop (l : List UInt8) (p k : Nat) : (l.drop p).getD k 0 = l.getD (p + k) 0 := by
  simp [List.getD_eq_getElem?_getD, List.getElem?_drop]
theorem dig_at2 (s : ByteArray) (p k : Nat) : split.dig ((s.data.toList.drop p).getD k 0) = true ↔ 48 ≤ at_ s (p + k) ∧ at_ s (p + k) ≤ 57 := by
  rw [getD_drop]; exact split.dig_at s (p + k)
theorem run_dig {s : ByteArray} {p k : Nat} (h : k < run s p) : 48 ≤ at_ s (p + k) ∧ at_ s (p + k) ≤ 57 := (dig_at2 s p k).1 (split.ld_dig _ _ h)
theorem run_stop {s : ByteArray} {p : Nat} (h : p + run s p < s.size) : ¬ (48 ≤ at_ s (p + run s p) ∧ at_ s (p + run s p) ≤ 57) := fun e => by
  have e2 : s.data.toList.length = s.size := by simp
  have h1 := split.ld_stop (s.data.toList.drop p) (by rw [List.length_drop, e2]; unfold run at h; omega)
  have h2 := (dig_at2 s p (run s p)).2 e
  unfold run at h2
  rw [h1] at h2
  cases h2
theorem run_go {s : ByteArray} {p k : Nat} (h : k ≤ run s p) (hk : p + k < s.size) (h1 : 48 ≤ at_ s (p + k)) (h2 : at_ s (p + k) ≤ 57) : k + 1 ≤ run s p := by
  by_cases e : k = run s p
  · subst e; exact absurd ⟨h1, h2⟩ (run_stop hk)
  · omega
theorem run_end {s : ByteArray} {p k : Nat} (hp : p ≤ s.size) (h : k ≤ run s p) (hk : s.size ≤ p + k ∨ at_ s (p + k) < 48 ∨ 57 < at_ s (p + k)) : run s p = k := by
  by_cases e : k < run s p
  · have h1 := run_dig e
    have h2 := run_le s p hp
    omega
  · omega
theorem figs_length (s : ByteArray) (p : Nat) : (figs s p).length = run s p := by
  unfold figs run
  rw [List.length_take]
  have := split.ld_le (s.data.toList.drop p)
  omega
theorem figs_get (s : ByteArray) (p k : Nat) (h : k < run s p) : (((figs s p).getD k 0).toNat : Int) = at_ s (p + k) := by
  unfold figs at_
  rw [List.getD_eq_getElem?_getD, List.getElem?_take_of_lt h, List.getElem?_drop, List.getD_eq_getElem?_getD]
theorem figs_isD (s : ByteArray) (p : Nat) : ∀ c ∈ figs s p, num.isD c := by
  intro c hc
  obtain ⟨k, hk, rfl⟩ := List.getElem_of_mem hc
  have hk2 : k < run s p := by rw [figs_length] at hk; exact hk
  have h1 := run_dig hk2
  have h2 := figs_get s p k hk2
  rw [List.getD_eq_getElem?_getD, List.getElem?_eq_getElem hk, Option.getD_some] at h2
  unfold num.isD
  omega
theorem figs_extract (s : ByteArray) (p : Nat) : (s.extract p (p + run s p)).data.toList = figs s p := by
  rw [ByteArray.data_extract, Array.toList_extract, List.extract_eq_take_drop, Nat.add_sub_cancel_left]
  rfl
/-- No needless nought stands first. -/
def canon (l : List UInt8) : Prop := l ≠ [] ∧ (∀ c ∈ l, num.isD c) ∧ (l.length = 1 ∨ (l.getD 0 0).toNat ≠ 48)
theorem figs_canon {s : ByteArray} {p : Nat} (h : ¬ bad s p) : canon (figs s p) := by
  unfold bad at h
  refine ⟨fun e => h (.inl ?_), figs_isD s p, ?_⟩
  · rw [← figs_length, e]; rfl
  · rw [figs_length]
    by_cases e : run s p = 1
    · exact .inl e
    · right
      intro e2
      have h0 : 0 < run s p := by
        rcases Nat.eq_zero_or_pos (run s p) with e0 | e0
        · exact absurd (.inl e0) h
        · exact e0
      have := figs_get s p 0 h0
      rw [Nat.add_zero] at this
      exact h (.inr (.inl ⟨by omega, by omega⟩))
theorem fold_pos {l : List UInt8} (h : l ≠ []) (hd : ∀ c ∈ l, num.isD c) (h0 : (l.getD 0 0).toNat ≠ 48) : 1 ≤ num.foldD 0 l := by
  cases l with
  | nil => exact absurd rfl h
  | cons c r =>
    rw [num.foldD_cons]
    have h1 := hd c (List.mem_cons_self ..)
    unfold num.isD at h1
    simp at h0
    have h2 := num.foldD_ge r (10 * 0 + (c.toNat - 48))
    omega
theorem digit_one (c : UInt8) (h : num.isD c) : Lib.decDigits (c.toNat - 48) = [c] := by
  unfold num.isD at h
  rw [Lib.decDigits, dif_pos (by omega)]
  congr 1
  apply UInt8.toNat.inj
  have := c.toNat_lt
  simp
  omega
theorem canon_snoc : ∀ (n : Nat) (l : List UInt8), l.length = n → canon l → l = Lib.decDigits (num.foldD 0 l) := by
  intro n
  induction n with
  | zero => intro l hl h; exact absurd (List.eq_nil_of_length_eq_zero hl) h.1
  | succ n ih =>
    intro l hl h
    obtain ⟨r, c, rfl⟩ : ∃ r c, l = r ++ [c] := ⟨l.dropLast, l.getLast h.1, (List.dropLast_concat_getLast h.1).symm⟩
    have hc : num.isD c := h.2.1 c (by simp)
    have hr : r.length = n := by simpa using hl
    rw [num.foldD_snoc]
    have hc' := hc
    unfold num.isD at hc'
    cases r with
    | nil =>
      rw [num.foldD_nil]
      have := digit_one c hc
      simpa using this.symm
    | cons a r =>
      have ha : (a.toNat) ≠ 48 := by
        rcases h.2.2 with h1 | h1
        · simp at h1
        · simpa using h1
      have hcan : canon (a :: r) := ⟨by simp, fun x hx => h.2.1 x (List.mem_append_left _ hx), .inr (by simpa using ha)⟩
      have e := ih (a :: r) hr hcan
      have hp := fold_pos hcan.1 hcan.2.1 (by simpa using ha)
      generalize num.foldD 0 (a :: r) = u at e hp ⊢
      rw [Lib.decDigits, dif_neg (by omega), show (10 * u + (c.toNat - 48)) / 10 = u by omega, ← e]
      congr 1
      congr 1
      apply UInt8.toNat.inj
      have := c.toNat_lt
      simp
      omega
theorem canon_dec {l : List UInt8} (h : canon l) : l = Lib.decDigits (num.foldD 0 l) := canon_snoc _ l rfl h

theorem parse_any : ∀ (l : List UInt8) (acc : Nat), (∀ c ∈ l, num.isD c) → acc < 18446744073709551616 → Lib.parseUint10 acc l = if num.foldD acc l < 18446744073709551616 then .ok (num.foldD acc l) else .range
  | [], acc, _, h => by rw [num.foldD_nil, if_pos h]; rfl
  | c :: r, acc, hd, h => by
    have hc := hd c (List.mem_cons_self ..)
    unfold num.isD at hc
    rw [num.foldD_cons]
    have hge := num.foldD_ge r (10 * acc + (c.toNat - 48))
    rw [Lib.parseUint10, if_pos hc]
    by_cases h1 : 1844674407370955162 ≤ acc
    · rw [if_pos h1, if_neg (by omega)]
    rw [if_neg h1]
    by_cases h2 : 18446744073709551616 ≤ acc * 10 + (c.toNat - 48)
    · rw [if_pos h2, if_neg (by omega)]
    · rw [if_neg h2, show acc * 10 + (c.toNat - 48) = 10 * acc + (c.toNat - 48) by omega]
      exact parse_any r _ (fun x hx => hd x (List.mem_cons_of_mem _ hx)) (by omega)
theorem mag_any {l : List UInt8} (h : canon l) : Lib.parseMag l = if num.foldD 0 l < 18446744073709551616 then .ok (num.foldD 0 l) else .range := by
  unfold Lib.parseMag
  rw [if_neg h.1]
  exact parse_any l 0 h.2.1 (by omega)
theorem atoi_plain {l : List UInt8} (h : canon l) : Lib.atoiAll l = if num.foldD 0 l ≤ 9223372036854775807 then .ok (num.foldD 0 l : Int) else .range := by
  have hm := mag_any h
  cases l with
  | nil => exact absurd rfl h.1
  | cons c r =>
    have hc := h.2.1 c (List.mem_cons_self ..)
    unfold num.isD at hc
    rw [Lib.atoiAll_plain c r (by omega) (by omega), hm]
    generalize num.foldD 0 (c :: r) = u
    by_cases h1 : u < 18446744073709551616
    · rw [if_pos h1]
      show (if 9223372036854775808 ≤ u then _ else _) = _
      by_cases h2 : u ≤ 9223372036854775807
      · rw [if_neg (by omega), if_pos h2]
      · rw [if_pos (by omega), if_neg h2]
    · rw [if_neg h1, if_neg (by omega)]; rfl
theorem atoi_minus {l : List UInt8} (h : canon l) : Lib.atoiAll (45 :: l) = if num.foldD 0 l ≤ 9223372036854775808 then .ok (-(num.foldD 0 l : Int)) else .range := by
  have hm := mag_any h
  rw [Lib.atoiAll_minus l, hm]
  generalize num.foldD 0 l = u
  by_cases h1 : u < 18446744073709551616
  · rw [if_pos h1]
    show (if 9223372036854775808 < u then _ else _) = _
    by_cases h2 : u ≤ 9223372036854775808
    · rw [if_neg (by omega), if_pos h2]
    · rw [if_pos (by omega), if_neg h2]
  · rw [if_neg h1, if_neg (by omega)]; rfl
theorem num_canon {t : ByteArray} (h : canon t.data.toList) : readnum.flag 9223372036854775807 t = decide (num.foldD 0 t.data.toList ≤ 9223372036854775807) ∧ readnum.res 9223372036854775807 t = if num.foldD 0 t.data.toList ≤ 9223372036854775807 then (num.foldD 0 t.data.toList : Int) else 0 := by
  by_cases h1 : num.foldD 0 t.data.toList ≤ 9223372036854775807
  · have hn : readnum.Num 9223372036854775807 t (num.foldD 0 t.data.toList) := ⟨h1, canon_dec h⟩
    rw [readnum.yes_flag hn, readnum.yes_res hn, if_pos h1, decide_eq_true h1]
    exact ⟨rfl, rfl⟩
  · have hno : ∀ n, ¬ readnum.Num 9223372036854775807 t n := fun n hn => by
      have := hn.2
      rw [this, num.dec_fold] at h1
      exact h1 hn.1
    rw [readnum.no_flag hno, readnum.no_res hno, if_neg h1, decide_eq_false h1]
    exact ⟨rfl, rfl⟩
theorem least_list : Lib.decDigits 9223372036854775808 = [57, 50, 50, 51, 51, 55, 50, 48, 51, 54, 56, 53, 52, 55, 55, 53, 56, 48, 56] := by
  simp [Lib.decDigits]
theorem least_iff {t : ByteArray} (h : canon t.data.toList) : t = ⟨#[57, 50, 50, 51, 51, 55, 50, 48, 51, 54, 56, 53, 52, 55, 55, 53, 56, 48, 56]⟩ ↔ num.foldD 0 t.data.toList = 9223372036854775808 := by
  constructor
  · intro e
    rw [e]
    show num.foldD 0 [57, 50, 50, 51, 51, 55, 50, 48, 51, 54, 56, 53, 52, 55, 55, 53, 56, 48, 56] = _
    decide
  · intro e
    have h1 := canon_dec h
    rw [e, least_list] at h1
    apply ByteArray.ext
    apply Array.ext'
    exact h1
end Go.Proofs.YtlnfbpdicjcpgaaGreatDoor.whole
namespace Go.Proofs.YtlnfbpdicjcpgaaGreatDoor.readq
open Go Go.RowKit
set_option linter.unusedVariables false

/-- The value of a digit of either case; -1. -/
def hexv (x : Int) : Int := if 48 ≤ x ∧ x ≤ 57 then x - 48 else if 97 ≤ x ∧ x ≤ 102 then x - 87 else if 65 ≤ x ∧ x ≤ 70 then x - 55 else -1
theorem hexv_lt (x : Int) : -1 ≤ hexv x ∧ hexv x < 16 := by
  unfold hexv
  split
  · omega
  · split
    · omega
    · split <;> omega
/-- The number of k digits from place p on, where they are digits. -/
def acc (s : ByteArray) (p : Nat) : Nat → Int
  | 0 => 0
  | k + 1 => 16 * acc s p k + hexv (at_ s (p + k))
def digs (s : ByteArray) (p k : Nat) : Prop := ∀ j, j < k → 0 ≤ hexv (at_ s (p + j))
instance (s : ByteArray) (p k : Nat) : Decidable (digs s p k) := by unfold digs; exact inferInstance
theorem acc_bd (s : ByteArray) (p : Nat) : ∀ k, digs s p k → 0 ≤ acc s p k ∧ acc s p k < 16 ^ k
  | 0, _ => ⟨Int.le_refl _, by show (0 : Int) < 16 ^ 0; decide⟩
  | k + 1, h => by
    have h1 := acc_bd s p k (fun j hj => h j (by omega))
    have h2 := h k (by omega)
    have h3 := hexv_lt (at_ s (p + k))
    have h4 : (16 : Int) ^ (k + 1) = 16 * 16 ^ k := by rw [Int.pow_succ]; omega
    show 0 ≤ 16 * acc s p k + hexv (at_ s (p + k)) ∧ 16 * acc s p k + hexv (at_ s (p + k)) < _
    omega
def four (s : ByteArray) (p : Nat) : Int := if p + 4 ≤ s.size ∧ digs s p 4 then acc s p 4 else -1
theorem four_yes {s : ByteArray} {p : Nat} (h : p + 4 ≤ s.size) (h2 : digs s p 4) : four s p = acc s p 4 ∧ 0 ≤ acc s p 4 ∧ acc s p 4 ≤ 65535 := by
  have h3 := acc_bd s p 4 h2
  have e : (16 : Int) ^ 4 = 65536 := by decide
  rw [e] at h3
  exact ⟨if_pos ⟨h, h2⟩, h3.1, by omega⟩
theorem four_no {s : ByteArray} {p : Nat} (h : ¬ (p + 4 ≤ s.size ∧ digs s p 4)) : four s p = -1 := if_neg h
theorem four_bd (s : ByteArray) (p : Nat) : -1 ≤ four s p ∧ four s p ≤ 65535 := by
  by_cases h : p + 4 ≤ s.size ∧ digs s p 4
  · have := four_yes h.1 h.2; omega
  · rw [four_no h]; omega
theorem four_room {s : ByteArray} {p : Nat} (h : 0 ≤ four s p) : p + 4 ≤ s.size := by
  by_cases e : p + 4 ≤ s.size ∧ digs s p 4
  · exact e.1
  · rw [four_no e] at h; omega

/-- A number told by four digits (the mark's letter stands at p), or by two such: the code point, and the place behind. -/
def uF (s : ByteArray) (p : Nat) : Int × Int :=
  if four s (p + 1) < 0 then (0, -1)
  else if 56320 ≤ four s (p + 1) ∧ four s (p + 1) ≤ 57343 then (0, -1)
  else if ¬ (55296 ≤ four s (p + 1) ∧ four s (p + 1) ≤ 56319) then (four s (p + 1), ((p + 5 : Nat) : Int))
  else if p + 7 ≤ s.size ∧ at_ s (p + 5) = 92 ∧ at_ s (p + 6) = 117 ∧ 56320 ≤ four s (p + 7) ∧ four s (p + 7) ≤ 57343 then (65536 + 1024 * (four s (p + 1) - 55296) + four s (p + 7) - 56320, ((p + 11 : Nat) : Int))
  else (0, -1)
/-- The letter at p behind a backslash. -/
def plain (x : Int) : Option Int :=
  if x = 34 then some 34 else if x = 92 then some 92 else if x = 47 then some 47 else if x = 98 then some 8 else if x = 102 then some 12
  else if x = 110 then some 10 else if x = 114 then some 13 else if x = 116 then some 9 else none
def escF (s : ByteArray) (p : Nat) : Int × Int :=
  if p < s.size then
    match plain (at_ s p) with
    | some n => (n, ((p + 1 : Nat) : Int))
    | none => if at_ s p = 117 then uF s p else (0, -1)
  else (0, -1)
noncomputable def runeF (s : ByteArray) (p : Nat) : Int × Int := if (rune.atF s (p : Int)).1 < 32 then (0, -1) else rune.atF s (p : Int)
noncomputable def stepF (s : ByteArray) (p : Nat) : Int × Int := if p < s.size ∧ at_ s p = 92 then escF s (p + 1) else runeF s p

/-- A step either fails, or goes on within the text with a code point. -/
def Fine (s : ByteArray) (p : Nat) (r : Int × Int) : Prop := r.2 = -1 ∨ ∃ q : Nat, r.2 = (q : Int) ∧ p < q ∧ q ≤ s.size ∧ 0 ≤ r.1 ∧ r.1 ≤ 1114111
theorem uF_fine (s : ByteArray) (p : Nat) : Fine s p (uF s p) := by
  unfold uF
  split
  · exact .inl rfl
  rename_i h1
  have h1' := four_room (s := s) (p := p + 1) (by omega)
  have hb := four_bd s (p + 1)
  split
  · exact .inl rfl
  split
  · exact .inr ⟨p + 5, rfl, by omega, by omega, by simp only; omega, by simp only; omega⟩
  split
  · rename_i h
    have h7 := four_room (s := s) (p := p + 7) (by omega)
    exact .inr ⟨p + 11, rfl, by omega, by omega, by simp only; omega, by simp only; omega⟩
  · exact .inl rfl
theorem plain_bd {x n : Int} (h : plain x = some n) : 0 ≤ n ∧ n ≤ 127 := by
  unfold plain at h
  repeat' split at h
  all_goals first | (injection h with h; omega) | cases h
theorem escF_fine (s : ByteArray) (p : Nat) : Fine s p (escF s p) := by
  unfold escF
  split
  · rename_i hp
    split
    · rename_i n hn
      have := plain_bd hn
      exact .inr ⟨p + 1, rfl, by omega, by omega, by simp only; omega, by simp only; omega⟩
    · split
      · exact uF_fine s p
      · exact .inl rfl
  · exact .inl rfl
theorem runeF_fine (s : ByteArray) (p : Nat) : Fine s p (runeF s p) := by
  unfold runeF
  split
  · exact .inl rfl
  · by_cases h : (rune.atF s (p : Int)).2 < 0
    · by_cases hh : ∃ n, rune.Is s p n
      · obtain ⟨n, hn⟩ := hh
        rw [rune.at_yes hn] at h
        simp only at h
        omega
      · rw [rune.at_none (fun n hn => hh ⟨n, hn⟩)]
        exact .inl rfl
    · obtain ⟨n, hi, e⟩ := rune.at_next h
      rw [e]
      have h1 := rune.enc_pos n
      have h2 := hi.2.1
      have h3 := hi.1
      unfold rune.valid at h3
      exact .inr ⟨p + (rune.enc n).length, rfl, by omega, h2, by simp only; omega, by simp only; omega⟩
theorem step_fine (s : ByteArray) (p : Nat) : Fine s p (stepF s p) := by
  unfold stepF
  split
  · rcases escF_fine s (p + 1) with h | ⟨q, h⟩
    · exact .inl h
    · exact .inr ⟨q, h.1, by omega, h.2.2⟩
  · exact runeF_fine s p

/-- The text between the quotes from place p on, behind l, and the place behind the closing quote. -/
noncomputable def readQ (s : ByteArray) (p : Nat) (l : List UInt8) : Option (List UInt8 × Nat) :=
  if hp : p < s.size then
    if at_ s p = 34 then some (l, p + 1)
    else if h : (stepF s p).2 ≤ (p : Int) then none
    else readQ s (stepF s p).2.toNat (l ++ (rune.textF (stepF s p).1).data.toList)
  else none
termination_by s.size - p
decreasing_by omega
theorem read_end {s : ByteArray} {p : Nat} {l : List UInt8} (h : s.size ≤ p) : readQ s p l = none := by rw [readQ, dif_neg (by omega)]
theorem read_close {s : ByteArray} {p : Nat} {l : List UInt8} (h : p < s.size) (h2 : at_ s p = 34) : readQ s p l = some (l, p + 1) := by rw [readQ, dif_pos h, if_pos h2]
theorem read_bad {s : ByteArray} {p : Nat} {l : List UInt8} (h2 : at_ s p ≠ 34 ∨ s.size ≤ p) (h3 : (stepF s p).2 < 0) : readQ s p l = none := by
  by_cases h : p < s.size
  · rw [readQ, dif_pos h, if_neg (by omega), dif_pos (by omega)]
  · exact read_end (by omega)
theorem read_go {s : ByteArray} {p q : Nat} {n : Int} {l : List UInt8} (h : p < s.size) (h2 : at_ s p ≠ 34) (h3 : stepF s p = (n, (q : Int))) (hq : p < q) : readQ s p l = readQ s q (l ++ (rune.textF n).data.toList) := by
  rw [readQ, dif_pos h, if_neg h2, dif_neg (by rw [h3]; simp only; omega), h3]
  rfl
noncomputable def quotedIn (s : ByteArray) (a : Nat) : ByteArray × Int := match readQ s (a + 1) [] with
  | some (l, q) => (⟨l.toArray⟩, (q : Int))
  | none => (⟨#[]⟩, -1)
noncomputable def readF (s : ByteArray) (a : Int) : ByteArray × Int := if 0 ≤ a ∧ a < s.size ∧ at_ s a.toNat = 34 then quotedIn s a.toNat else (⟨#[]⟩, -1)
theorem readF_no {s : ByteArray} {a : Int} (h : ¬ (0 ≤ a ∧ a < s.size ∧ at_ s a.toNat = 34)) : readF s a = (⟨#[]⟩, -1) := if_neg h
theorem readF_yes {s : ByteArray} {a : Nat} (h : a < s.size) (h2 : at_ s a = 34) : readF s (a : Int) = quotedIn s a := by
  unfold readF
  rw [if_pos ⟨by omega, by omega, by simpa using h2⟩, Int.toNat_natCast]
theorem in_some {s : ByteArray} {a q : Nat} {l : List UInt8} (h : readQ s (a + 1) [] = some (l, q)) : quotedIn s a = (⟨l.toArray⟩, (q : Int)) := by unfold quotedIn; rw [h]
theorem in_none {s : ByteArray} {a : Nat} (h : readQ s (a + 1) [] = none) : quotedIn s a = (⟨#[]⟩, -1) := by unfold quotedIn; rw [h]
theorem read_place {s : ByteArray} : ∀ (n p : Nat) (l r : List UInt8) (q : Nat), s.size - p = n → readQ s p l = some (r, q) → p < q ∧ q ≤ s.size := by
  intro n
  induction n using Nat.strongRecOn with
  | _ n ih =>
    intro p l r q hn h
    by_cases hp : p < s.size
    · by_cases h2 : at_ s p = 34
      · rw [read_close hp h2] at h
        injection h with h
        injection h with h h'
        omega
      · rcases step_fine s p with hf | ⟨q', e, h4, h5, _⟩
        · rw [read_bad (.inl h2) (by omega)] at h; cases h
        · have e3 : stepF s p = ((stepF s p).1, (q' : Int)) := by rw [← e]
          rw [read_go hp h2 e3 h4] at h
          have := ih (s.size - q') (by omega) q' _ r q rfl h
          omega
    · rw [read_end (by omega)] at h; cases h
theorem readF_bd (s : ByteArray) (a : Int) : (readF s a = (⟨#[]⟩, -1)) ∨ ∃ q : Nat, (readF s a).2 = (q : Int) ∧ a < (q : Int) ∧ q ≤ s.size := by
  by_cases h : 0 ≤ a ∧ a < s.size ∧ at_ s a.toNat = 34
  · obtain ⟨a, rfl⟩ := Int.eq_ofNat_of_zero_le h.1
    rw [readF_yes (by omega) (by simpa using h.2.2)]
    cases e : readQ s (a + 1) [] with
    | none => exact .inl (in_none e)
    | some p =>
      obtain ⟨l, q⟩ := p
      have := read_place _ (a + 1) [] l q rfl e
      rw [in_some e]
      exact .inr ⟨q, rfl, by omega, this.2⟩
  · exact .inl (readF_no h)
end Go.Proofs.YtlnfbpdicjcpgaaGreatDoor.readq
namespace Go.Proofs.YtlnfbpdicjcpgaaGreatDoor.sign
open Go Go.RowKit
set_option linter.unusedVariables false

structure Sg where
  kind : Int
  text : ByteArray
  num : Int
  at_ : Int
def zero : Sg := ⟨0, ⟨#[]⟩, 0, 0⟩
def markK (x : Int) : Int := if x = 123 then 1 else if x = 125 then 2 else if x = 91 then 3 else if x = 93 then 4 else if x = 58 then 5 else if x = 44 then 6 else 0
/-- The word stands at p. -/
def Told (s : ByteArray) (p : Nat) (l : List UInt8) : Prop := p + l.length ≤ s.size ∧ s.extract p (p + l.length) = ⟨l.toArray⟩
instance (s : ByteArray) (p : Nat) (l : List UInt8) : Decidable (Told s p l) := by unfold Told; exact inferInstance
def trueW : List UInt8 := [116, 114, 117, 101]
def falseW : List UInt8 := [102, 97, 108, 115, 101]
def nullW : List UInt8 := [110, 117, 108, 108]
theorem told_at {s : ByteArray} {p : Nat} {l : List UInt8} (h : Told s p l) (k : Nat) (hk : k < l.length) : at_ s (p + k) = ((l.getD k 0).toNat : Int) := by
  have h1 := congrArg (fun x : ByteArray => x.data.toList[k]?) h.2
  simp only [ByteArray.data_extract, Array.toList_extract, List.extract_eq_take_drop] at h1
  rw [List.getElem?_take_of_lt (by omega), List.getElem?_drop] at h1
  unfold Go.Proofs.YtlnfbpdicjcpgaaGreatDoor.at_
  rw [List.getD_eq_getElem?_getD, h1, List.getD_eq_getElem?_getD]
def wordK (s : ByteArray) (p : Nat) : Int × Nat := if Told s p trueW then (9, 4) else if Told s p falseW then (10, 5) else if Told s p nullW then (11, 4) else (0, 0)
theorem word_true {s : ByteArray} {p : Nat} (h : Told s p trueW) : wordK s p = (9, 4) := if_pos h
theorem word_false {s : ByteArray} {p : Nat} (h0 : ¬ Told s p trueW) (h : Told s p falseW) : wordK s p = (10, 5) := by unfold wordK; rw [if_neg h0, if_pos h]
theorem word_null {s : ByteArray} {p : Nat} (h0 : ¬ Told s p trueW) (h1 : ¬ Told s p falseW) (h : Told s p nullW) : wordK s p = (11, 4) := by unfold wordK; rw [if_neg h0, if_neg h1, if_pos h]
theorem word_no {s : ByteArray} {p : Nat} (h0 : ¬ Told s p trueW) (h1 : ¬ Told s p falseW) (h : ¬ Told s p nullW) : wordK s p = (0, 0) := by unfold wordK; rw [if_neg h0, if_neg h1, if_neg h]
theorem told_first {s : ByteArray} {p : Nat} {b : UInt8} {l : List UInt8} (h : Told s p (b :: l)) : at_ s p = (b.toNat : Int) := by
  have := told_at h 0 (by simp)
  simpa using this
theorem word_else {s : ByteArray} {p : Nat} (h1 : at_ s p ≠ 116) (h2 : at_ s p ≠ 102) (h3 : at_ s p ≠ 110) : ¬ Told s p trueW ∧ ¬ Told s p falseW ∧ ¬ Told s p nullW :=
  ⟨fun h => h1 (told_first h), fun h => h2 (told_first h), fun h => h3 (told_first h)⟩
theorem word_first {s : ByteArray} {p : Nat} (h : (wordK s p).1 ≠ 0) : at_ s p = 116 ∨ at_ s p = 102 ∨ at_ s p = 110 := by
  by_cases h1 : at_ s p = 116
  · exact .inl h1
  by_cases h2 : at_ s p = 102
  · exact .inr (.inl h2)
  by_cases h3 : at_ s p = 110
  · exact .inr (.inr h3)
  have := word_else h1 h2 h3
  rw [word_no this.1 this.2.1 this.2.2] at h
  exact absurd rfl h
theorem word_bd (s : ByteArray) (p : Nat) : wordK s p = (0, 0) ∨ (0 < (wordK s p).1 ∧ 0 < (wordK s p).2 ∧ p + (wordK s p).2 ≤ s.size) := by
  by_cases h1 : Told s p trueW
  · rw [word_true h1]; exact .inr ⟨by decide, by decide, h1.1⟩
  by_cases h2 : Told s p falseW
  · rw [word_false h1 h2]; exact .inr ⟨by decide, by decide, h2.1⟩
  by_cases h3 : Told s p nullW
  · rw [word_null h1 h2 h3]; exact .inr ⟨by decide, by decide, h3.1⟩
  · exact .inl (word_no h1 h2 h3)

/-- No number without a digit or '-'. -/
theorem whole_no {s : ByteArray} {p : Nat} (hp : p < s.size) (h : ¬ (at_ s p = 45 ∨ (48 ≤ at_ s p ∧ at_ s p ≤ 57))) : whole.wholeF s (p : Int) = (0, -1) := by
  rw [whole.whole_in hp]
  unfold whole.wholeN whole.head
  rw [if_neg (fun e => h (.inl e)), if_pos]
  refine .inl (whole.run_end (by omega) (Nat.zero_le _) ?_)
  rw [Nat.add_zero]
  omega
theorem whole_bd (s : ByteArray) (a : Int) : whole.wholeF s a = (0, -1) ∨ ∃ q : Nat, (whole.wholeF s a).2 = (q : Int) ∧ a < (q : Int) ∧ q ≤ s.size ∧ -9223372036854775808 ≤ (whole.wholeF s a).1 ∧ (whole.wholeF s a).1 ≤ 9223372036854775807 := by
  unfold whole.wholeF
  split
  · rename_i ha
    obtain ⟨p, rfl⟩ := Int.eq_ofNat_of_zero_le ha.1
    rw [Int.toNat_natCast]
    unfold whole.wholeN
    split
    · exact .inl rfl
    rename_i hb
    have h0 : whole.run s (whole.head s p) ≠ 0 := fun e => hb (.inl e)
    unfold whole.head at h0
    split
    · rename_i h45
      rw [if_pos h45] at h0
      have := whole.run_le s (p + 1) (by omega)
      split
      · exact .inr ⟨_, rfl, by omega, by omega, by simp only; omega, by simp only; omega⟩
      · exact .inl rfl
    · rename_i h45
      rw [if_neg h45] at h0
      have := whole.run_le s p (by omega)
      split
      · exact .inr ⟨_, rfl, by omega, by omega, by simp only; omega, by simp only; omega⟩
      · exact .inl rfl
  · exact .inl rfl

noncomputable def signN (s : ByteArray) (a : Nat) : Sg × Int :=
  if markK (at_ s a) ≠ 0 then (⟨markK (at_ s a), ⟨#[]⟩, 0, a⟩, ((a + 1 : Nat) : Int))
  else if at_ s a = 34 then (if (readq.readF s (a : Int)).2 < 0 then (zero, -1) else (⟨7, (readq.readF s (a : Int)).1, 0, a⟩, (readq.readF s (a : Int)).2))
  else if at_ s a = 45 ∨ (48 ≤ at_ s a ∧ at_ s a ≤ 57) then (if (whole.wholeF s (a : Int)).2 < 0 then (zero, -1) else (⟨8, ⟨#[]⟩, (whole.wholeF s (a : Int)).1, a⟩, (whole.wholeF s (a : Int)).2))
  else if (wordK s a).1 ≠ 0 then (⟨(wordK s a).1, ⟨#[]⟩, 0, a⟩, ((a + (wordK s a).2 : Nat) : Int))
  else (zero, -1)
noncomputable def signF (s : ByteArray) (a : Int) : Sg × Int := if 0 ≤ a ∧ a < s.size then signN s a.toNat else (zero, -1)
theorem sign_out {s : ByteArray} {a : Int} (h : ¬ (0 ≤ a ∧ a < s.size)) : signF s a = (zero, -1) := if_neg h
theorem sign_in {s : ByteArray} {a : Nat} (h : a < s.size) : signF s (a : Int) = signN s a := by
  unfold signF
  rw [if_pos ⟨by omega, by omega⟩, Int.toNat_natCast]
theorem n_mark {s : ByteArray} {a : Nat} (h : markK (at_ s a) ≠ 0) : signN s a = (⟨markK (at_ s a), ⟨#[]⟩, 0, a⟩, ((a + 1 : Nat) : Int)) := if_pos h
theorem n_text {s : ByteArray} {a : Nat} (h : at_ s a = 34) : signN s a = if (readq.readF s (a : Int)).2 < 0 then (zero, -1) else (⟨7, (readq.readF s (a : Int)).1, 0, a⟩, (readq.readF s (a : Int)).2) := by
  unfold signN
  rw [if_neg (by rw [h]; decide), if_pos h]
theorem n_num {s : ByteArray} {a : Nat} (h : at_ s a = 45 ∨ (48 ≤ at_ s a ∧ at_ s a ≤ 57)) : signN s a = if (whole.wholeF s (a : Int)).2 < 0 then (zero, -1) else (⟨8, ⟨#[]⟩, (whole.wholeF s (a : Int)).1, a⟩, (whole.wholeF s (a : Int)).2) := by
  unfold signN
  have h1 : ¬ markK (at_ s a) ≠ 0 := by
    unfold markK
    simp only [ne_eq, Decidable.not_not]
    rw [if_neg (by omega), if_neg (by omega), if_neg (by omega), if_neg (by omega), if_neg (by omega), if_neg (by omega)]
  rw [if_neg h1, if_neg (by omega), if_pos h]
theorem n_word {s : ByteArray} {a : Nat} (h : (wordK s a).1 ≠ 0) : signN s a = (⟨(wordK s a).1, ⟨#[]⟩, 0, a⟩, ((a + (wordK s a).2 : Nat) : Int)) := by
  have hf := word_first h
  unfold signN
  have h1 : ¬ markK (at_ s a) ≠ 0 := by
    unfold markK
    simp only [ne_eq, Decidable.not_not]
    rw [if_neg (by omega), if_neg (by omega), if_neg (by omega), if_neg (by omega), if_neg (by omega), if_neg (by omega)]
  rw [if_neg h1, if_neg (by omega), if_neg (by omega), if_pos h]
theorem n_none {s : ByteArray} {a : Nat} (h1 : markK (at_ s a) = 0) (h2 : at_ s a ≠ 34) (h3 : ¬ (at_ s a = 45 ∨ (48 ≤ at_ s a ∧ at_ s a ≤ 57))) (h4 : wordK s a = (0, 0)) : signN s a = (zero, -1) := by
  unfold signN
  rw [if_neg (by rw [h1]; decide), if_neg h2, if_neg h3, if_neg (by rw [h4]; decide)]
theorem sign_bd (s : ByteArray) (a : Nat) (ha : a < s.size) : signN s a = (zero, -1) ∨ ∃ q : Nat, (signN s a).2 = (q : Int) ∧ a < q ∧ q ≤ s.size := by
  by_cases h1 : markK (at_ s a) ≠ 0
  · rw [n_mark h1]; exact .inr ⟨a + 1, rfl, by omega, by omega⟩
  by_cases h2 : at_ s a = 34
  · rw [n_text h2]
    split
    · exact .inl rfl
    · rename_i hn
      rcases readq.readF_bd s a with e | ⟨q, e, h3, h4⟩
      · rw [e] at hn; exact absurd (by decide) hn
      · exact .inr ⟨q, e, by omega, h4⟩
  by_cases h3 : at_ s a = 45 ∨ (48 ≤ at_ s a ∧ at_ s a ≤ 57)
  · rw [n_num h3]
    split
    · exact .inl rfl
    · rename_i hn
      rcases whole_bd s a with e | ⟨q, e, h5, h4, _⟩
      · rw [e] at hn; exact absurd (by decide) hn
      · exact .inr ⟨q, e, by omega, h4⟩
  rcases word_bd s a with e | ⟨h4, h5, h6⟩
  · exact .inl (n_none (by omega) h2 h3 e)
  · rw [n_word (by omega)]; exact .inr ⟨_, rfl, by omega, h6⟩

/-! SignsOf. -/
def blank (x : Int) : Prop := x = 32 ∨ x = 9 ∨ x = 10 ∨ x = 13
instance (x : Int) : Decidable (blank x) := by unfold blank; exact inferInstance
/-- The first place from p on at which no code point is told. -/
noncomputable def badAt (s : ByteArray) (p : Nat) : Option Nat :=
  if hp : p < s.size then (if h : (rune.atF s (p : Int)).2 ≤ (p : Int) then some p else badAt s (rune.atF s (p : Int)).2.toNat) else none
termination_by s.size - p
decreasing_by omega
theorem bad_end {s : ByteArray} {p : Nat} (h : s.size ≤ p) : badAt s p = none := by rw [badAt, dif_neg (by omega)]
theorem bad_here {s : ByteArray} {p : Nat} (h : p < s.size) (h2 : (rune.atF s (p : Int)).2 < 0) : badAt s p = some p := by rw [badAt, dif_pos h, dif_pos (by omega)]
theorem bad_go {s : ByteArray} {p q : Nat} (h : p < s.size) (h2 : (rune.atF s (p : Int)).2 = (q : Int)) (hq : p < q) : badAt s p = badAt s q := by
  rw [badAt, dif_pos h, dif_neg (by omega), h2, Int.toNat_natCast]
/-- The signs from place p on, behind l; or the place at which none begins. -/
noncomputable def signsF (s : ByteArray) (p : Nat) (l : List Sg) : Except Nat (List Sg) :=
  if hp : p < s.size then
    if blank (at_ s p) then signsF s (p + 1) l
    else if h : (signN s p).2 ≤ (p : Int) then .error p
    else signsF s (signN s p).2.toNat (l ++ [(signN s p).1])
  else .ok l
termination_by s.size - p
decreasing_by all_goals omega
theorem signs_end {s : ByteArray} {p : Nat} {l : List Sg} (h : s.size ≤ p) : signsF s p l = .ok l := by rw [signsF, dif_neg (by omega)]
theorem signs_blank {s : ByteArray} {p : Nat} {l : List Sg} (h : p < s.size) (h2 : blank (at_ s p)) : signsF s p l = signsF s (p + 1) l := by rw [signsF, dif_pos h, if_pos h2]
theorem signs_bad {s : ByteArray} {p : Nat} {l : List Sg} (h : p < s.size) (h2 : ¬ blank (at_ s p)) (h3 : (signN s p).2 < 0) : signsF s p l = .error p := by rw [signsF, dif_pos h, if_neg h2, dif_pos (by omega)]
theorem signs_go {s : ByteArray} {p q : Nat} {l : List Sg} (h : p < s.size) (h2 : ¬ blank (at_ s p)) (h3 : (signN s p).2 = (q : Int)) (hq : p < q) : signsF s p l = signsF s q (l ++ [(signN s p).1]) := by
  rw [signsF, dif_pos h, if_neg h2, dif_neg (by omega), h3, Int.toNat_natCast]
/-- Behind the blanks from p on. -/
def isB (b : UInt8) : Bool := b.toNat == 32 || b.toNat == 9 || b.toNat == 10 || b.toNat == 13
def skip (s : ByteArray) (p : Nat) : Nat := p + ((s.data.toList.drop p).takeWhile isB).length
theorem skip_end {s : ByteArray} {p : Nat} (h : s.size ≤ p) : skip s p = p := by
  unfold skip
  rw [List.drop_eq_nil_of_le (by simpa using h)]
  rfl
theorem isB_at (s : ByteArray) (p : Nat) (hp : p < s.size) : isB (s.data.toList[p]'(by simpa using hp)) = true ↔ blank (at_ s p) := by
  unfold isB blank Go.Proofs.YtlnfbpdicjcpgaaGreatDoor.at_
  rw [List.getD_eq_getElem?_getD, List.getElem?_eq_getElem (by simpa using hp), Option.getD_some]
  simp only [Bool.or_eq_true, beq_iff_eq]
  omega
theorem skip_yes {s : ByteArray} {p : Nat} (h : p < s.size) (h2 : blank (at_ s p)) : skip s p = skip s (p + 1) := by
  unfold skip
  rw [List.drop_eq_getElem_cons (by simpa using h), List.takeWhile_cons, if_pos ((isB_at s p h).2 h2), List.length_cons]
  omega
theorem skip_no {s : ByteArray} {p : Nat} (h : p < s.size) (h2 : ¬ blank (at_ s p)) : skip s p = p := by
  unfold skip
  rw [List.drop_eq_getElem_cons (by simpa using h), List.takeWhile_cons, if_neg (fun e => h2 ((isB_at s p h).1 e))]
  rfl
theorem skip_at : ∀ (n : Nat) (s : ByteArray) (p : Nat), s.size - p = n → p ≤ s.size → p ≤ skip s p ∧ skip s p ≤ s.size ∧ (skip s p < s.size → ¬ blank (at_ s (skip s p))) ∧ ∀ l, signsF s p l = signsF s (skip s p) l := by
  intro n
  induction n with
  | zero => intro s p hn hp; rw [skip_end (by omega)]; exact ⟨by omega, hp, fun h => by omega, fun l => rfl⟩
  | succ n ih =>
    intro s p hn hp
    by_cases hb : blank (at_ s p)
    · have h1 := ih s (p + 1) (by omega) (by omega)
      rw [← skip_yes (by omega) hb] at h1
      exact ⟨by omega, h1.2.1, h1.2.2.1, fun l => by rw [signs_blank (by omega) hb]; exact h1.2.2.2 l⟩
    · rw [skip_no (by omega) hb]; exact ⟨by omega, hp, fun _ => hb, fun l => rfl⟩
structure Ft where
  code : Int
  at_ : Int
  path : ByteArray
noncomputable def allF (s : ByteArray) : List Sg × Ft :=
  if 20000 < s.size then ([], ⟨1, 0, ⟨#[]⟩⟩) else match badAt s 0 with
  | some q => ([], ⟨2, q, ⟨#[]⟩⟩)
  | none => match signsF s 0 [] with
    | .error q => ([], ⟨3, q, ⟨#[]⟩⟩)
    | .ok l => (l, ⟨0, 0, ⟨#[]⟩⟩)
theorem all_long {s : ByteArray} (h : 20000 < s.size) : allF s = ([], ⟨1, 0, ⟨#[]⟩⟩) := if_pos h
theorem all_bad {s : ByteArray} {q : Nat} (h : ¬ 20000 < s.size) (h2 : badAt s 0 = some q) : allF s = ([], ⟨2, q, ⟨#[]⟩⟩) := by unfold allF; rw [if_neg h, h2]
theorem all_sign {s : ByteArray} {q : Nat} (h : ¬ 20000 < s.size) (h2 : badAt s 0 = none) (h3 : signsF s 0 [] = .error q) : allF s = ([], ⟨3, q, ⟨#[]⟩⟩) := by unfold allF; rw [if_neg h, h2, h3]
theorem all_ok {s : ByteArray} {l : List Sg} (h : ¬ 20000 < s.size) (h2 : badAt s 0 = none) (h3 : signsF s 0 [] = .ok l) : allF s = (l, ⟨0, 0, ⟨#[]⟩⟩) := by unfold allF; rw [if_neg h, h2, h3]
end Go.Proofs.YtlnfbpdicjcpgaaGreatDoor.sign
namespace Go.Proofs.YtlnfbpdicjcpgaaGreatDoor.sign
open Go Go.RowKit
set_option linter.unusedVariables false

def sgL (g : Sg) : List Value := [.int .i64 g.kind, .string g.text, .int .i64 g.num, .int .i64 g.at_]
def rowsL (l : List Sg) : List Value := l.flatMap sgL
theorem rowsL_length (l : List Sg) : (rowsL l).length = l.length * 4 := by
  induction l with
  | nil => rfl
  | cons g l ih =>
    unfold rowsL at ih ⊢
    rw [List.flatMap_cons, List.length_append, ih, List.length_cons]
    show 4 + _ = _
    omega
theorem rowsL_append (l r : List Sg) : rowsL (l ++ r) = rowsL l ++ rowsL r := by simp [rowsL]
theorem rowsL_one (g : Sg) : rowsL [g] = sgL g := by simp [rowsL]
theorem rowsL_get : ∀ (l : List Sg) (i j : Nat) (h : i < l.length), j < 4 → (rowsL l)[i * 4 + j]? = (sgL l[i])[j]?
  | [], i, j, h, _ => by simp at h
  | g :: l, 0, j, h, hj => by
    have e : rowsL (g :: l) = sgL g ++ rowsL l := by simp [rowsL]
    rw [e, Nat.zero_mul, Nat.zero_add, List.getElem?_append_left (by show j < 4; exact hj)]
    rfl
  | g :: l, i + 1, j, h, hj => by
    have e : rowsL (g :: l) = sgL g ++ rowsL l := by simp [rowsL]
    have hl : (sgL g).length = 4 := rfl
    have ih := rowsL_get l i j (by simpa using h) hj
    rw [e, List.getElem?_append_right (by omega), hl, show (i + 1) * 4 + j - 4 = i * 4 + j by omega, ih]
    rfl
theorem rowsL_cell (l : List Sg) : ∀ u ∈ rowsL l, u.oneCell' = true := by
  intro u hu
  unfold rowsL at hu
  obtain ⟨g, _, hg⟩ := List.mem_flatMap.1 hu
  unfold sgL at hg
  simp at hg
  rcases hg with rfl | rfl | rfl | rfl <;> rfl
/-- Four cells from place o on hold the token. -/
def Four (w : World) (g o : Nat) (x : Sg) : Prop :=
  w.cell? ⟨g, o, none⟩ = some (.int .i64 x.kind) ∧ w.cell? ⟨g, o + 1, none⟩ = some (.string x.text) ∧ w.cell? ⟨g, o + 2, none⟩ = some (.int .i64 x.num) ∧ w.cell? ⟨g, o + 3, none⟩ = some (.int .i64 x.at_)
theorem Four.block {w w' : World} {g o : Nat} {x : Sg} (h : Four w g o x) (e : w'.heap[g]? = w.heap[g]?) : Four w' g o x :=
  ⟨(World.cell?_of_block e).trans h.1, (World.cell?_of_block e).trans h.2.1, (World.cell?_of_block e).trans h.2.2.1, (World.cell?_of_block e).trans h.2.2.2⟩
/-- The slice with head A reads as the tokens. -/
def RdG (w : World) (A : Option Addr) (n : Nat) (l : List Sg) : Prop :=
  l.length = n ∧ (0 < n → ∃ g o, A = some ⟨g, o, none⟩ ∧ g < w.heap.size ∧ ∀ i (h : i < l.length), Four w g (o + i * 4) l[i])
theorem RdG.of_block {w w' : World} {A : Option Addr} {n : Nat} {l : List Sg} (h : RdG w A n l) (hs : w.heap.size ≤ w'.heap.size) (hk : ∀ g o, A = some ⟨g, o, none⟩ → g < w.heap.size → w'.heap[g]? = w.heap[g]?) : RdG w' A n l := by
  refine ⟨h.1, fun hn => ?_⟩
  obtain ⟨g, o, rfl, hg, hc⟩ := h.2 hn
  exact ⟨g, o, rfl, by omega, fun i hi => (hc i hi).block (hk g o rfl hg)⟩
theorem RdG.below {w w' : World} {A : Option Addr} {n : Nat} {l : List Sg} (h : RdG w A n l) (hb : Below w.heap.size w w') : RdG w' A n l := h.of_block hb.size (fun g o _ hg => hb.block g hg)
/-- The tokens in block g from its start on, which can be written. -/
def LiveG (w : World) (g : Nat) (l : List Sg) : Prop := g < w.heap.size ∧ ∀ i (h : i < l.length), Four w g (i * 4) l[i] ∧ ∀ j, w.frozen? ⟨g, j, none⟩ = false
theorem LiveG.block {w w' : World} {g : Nat} {l : List Sg} (h : LiveG w g l) (hs : w.heap.size ≤ w'.heap.size) (e : w'.heap[g]? = w.heap[g]?) : LiveG w' g l := by
  refine ⟨by have := h.1; omega, fun i hi => ⟨(h.2 i hi).1.block e, fun j => ?_⟩⟩
  rw [← (h.2 i hi).2 j]
  unfold World.frozen?
  rw [e]
theorem LiveG.rd {w : World} {g n : Nat} {l : List Sg} (h : LiveG w g l) (hn : l.length = n) : RdG w (some ⟨g, 0, none⟩) n l :=
  ⟨hn, fun _ => ⟨g, 0, rfl, h.1, fun i hi => by rw [Nat.zero_add]; exact (h.2 i hi).1⟩⟩
/-- A list of the call's own is none, or it is in a block that can be written. -/
theorem own_live {w : World} {B : Nat} {e : TypeId} {v : Value} {n : Nat} {l : List Sg} (hn : l.length = n) (h : w.ownsRow B e 4 v n (rowsL l)) :
    (v = .slice none 0 0 ∧ n = 0) ∨ ∃ g c, v = .slice (some ⟨g, 0, none⟩) n c ∧ B ≤ g ∧ n ≤ c ∧ c ≤ maxLen ∧ LiveG w g l := by
  have h0 := h
  rcases h.2 with h | ⟨g, cap, cur, rfl, hb, hg, hnc, hcm, hcs, htake⟩
  · exact .inl h
  · refine .inr ⟨g, cap, rfl, hb, hnc, hcm, (Array.getElem?_eq_some_iff.1 hg).1, fun i hi => ⟨?_, fun j => ?_⟩⟩
    · have hc : ∀ j, j < 4 → w.cell? ⟨g, i * 4 + j, none⟩ = (sgL l[i])[j]? := by
        intro j hj
        rw [cell_of_row w g _ cur e (0, 0) hg, ← rowsL_get l i j hi hj, ← htake, List.getElem?_take_of_lt (by omega), Array.getElem?_toList]
      exact ⟨(hc 0 (by omega)).trans rfl, (hc 1 (by omega)).trans rfl, (hc 2 (by omega)).trans rfl, (hc 3 (by omega)).trans rfl⟩
    · unfold World.frozen?
      rw [hg]
      simp
theorem own_rd {w : World} {B : Nat} {e : TypeId} {v : Value} {n : Nat} {l : List Sg} (hn : l.length = n) (h : w.ownsRow B e 4 v n (rowsL l)) : ∃ A c, v = .slice A n c ∧ n ≤ c ∧ c ≤ maxLen ∧ RdG w A n l := by
  rcases own_live hn h with ⟨rfl, rfl⟩ | ⟨g, c, rfl, hb, h1, h2, h3⟩
  · exact ⟨none, 0, rfl, Nat.le_refl _, Nat.zero_le _, hn, fun h => by omega⟩
  · exact ⟨_, c, rfl, h1, h2, h3.rd hn⟩

theorem four_other {w : World} {g o p : Nat} {x : Sg} {v : Value} (h : Four w g o x) (hp : p < o ∨ o + 3 < p) : Four (w.setCell ⟨g, p, none⟩ v) g o x := by
  refine ⟨?_, ?_, ?_, ?_⟩
  · rw [World.cell?_setCell_other _ _ _ _ (by intro e; simp only [Addr.mk.injEq] at e; omega)]; exact h.1
  · rw [World.cell?_setCell_other _ _ _ _ (by intro e; simp only [Addr.mk.injEq] at e; omega)]; exact h.2.1
  · rw [World.cell?_setCell_other _ _ _ _ (by intro e; simp only [Addr.mk.injEq] at e; omega)]; exact h.2.2.1
  · rw [World.cell?_setCell_other _ _ _ _ (by intro e; simp only [Addr.mk.injEq] at e; omega)]; exact h.2.2.2
theorem ne_off {g a b : Nat} (h : a ≠ b) : (⟨g, a, none⟩ : Addr) ≠ ⟨g, b, none⟩ := by intro e; simp only [Addr.mk.injEq] at e; omega
theorem four_0 {w : World} {g o : Nat} {k t n a} (h : Four w g o ⟨k, t, n, a⟩) (x : Int) : Four (w.setCell ⟨g, o, none⟩ (.int .i64 x)) g o ⟨x, t, n, a⟩ :=
  ⟨World.cell?_setCell_same _ _ _ h.1, (World.cell?_setCell_other _ _ _ _ (ne_off (by omega))).trans h.2.1, (World.cell?_setCell_other _ _ _ _ (ne_off (by omega))).trans h.2.2.1, (World.cell?_setCell_other _ _ _ _ (ne_off (by omega))).trans h.2.2.2⟩
theorem four_1 {w : World} {g o : Nat} {k t n a} (h : Four w g o ⟨k, t, n, a⟩) (x : ByteArray) : Four (w.setCell ⟨g, o + 1, none⟩ (.string x)) g o ⟨k, x, n, a⟩ :=
  ⟨(World.cell?_setCell_other _ _ _ _ (ne_off (by omega))).trans h.1, World.cell?_setCell_same _ _ _ h.2.1, (World.cell?_setCell_other _ _ _ _ (ne_off (by omega))).trans h.2.2.1, (World.cell?_setCell_other _ _ _ _ (ne_off (by omega))).trans h.2.2.2⟩
theorem four_2 {w : World} {g o : Nat} {k t n a} (h : Four w g o ⟨k, t, n, a⟩) (x : Int) : Four (w.setCell ⟨g, o + 2, none⟩ (.int .i64 x)) g o ⟨k, t, x, a⟩ :=
  ⟨(World.cell?_setCell_other _ _ _ _ (ne_off (by omega))).trans h.1, (World.cell?_setCell_other _ _ _ _ (ne_off (by omega))).trans h.2.1, World.cell?_setCell_same _ _ _ h.2.2.1, (World.cell?_setCell_other _ _ _ _ (ne_off (by omega))).trans h.2.2.2⟩
theorem four_3 {w : World} {g o : Nat} {k t n a} (h : Four w g o ⟨k, t, n, a⟩) (x : Int) : Four (w.setCell ⟨g, o + 3, none⟩ (.int .i64 x)) g o ⟨k, t, n, x⟩ :=
  ⟨(World.cell?_setCell_other _ _ _ _ (ne_off (by omega))).trans h.1, (World.cell?_setCell_other _ _ _ _ (ne_off (by omega))).trans h.2.1, (World.cell?_setCell_other _ _ _ _ (ne_off (by omega))).trans h.2.2.1, World.cell?_setCell_same _ _ _ h.2.2.2⟩
theorem setCell_grown (w : World) (g o : Nat) (v : Value) : w.grownBy (w.setCell ⟨g, o, none⟩ v) (some g) :=
  ⟨rfl, rfl, rfl, by simp [World.setCell], fun k hk hne => by
    have : ¬ g = k := fun e => hne (by rw [e])
    simp [World.setCell, Array.getElem?_modify, this]⟩
/-- A field of one of them is written. -/
theorem live_put {w : World} {g : Nat} {l : List Sg} {i p : Nat} {v : Value} {x : Sg} (h : LiveG w g l) (hi : i < l.length) (hp : i * 4 ≤ p ∧ p < i * 4 + 4) (hx : Four (w.setCell ⟨g, p, none⟩ v) g (i * 4) x) : LiveG (w.setCell ⟨g, p, none⟩ v) g (l.set i x) := by
  have hs : (w.setCell ⟨g, p, none⟩ v).heap.size = w.heap.size := by simp [World.setCell]
  refine ⟨by rw [hs]; exact h.1, fun j hj => ⟨?_, fun q => ?_⟩⟩
  · have hj2 : j < l.length := by rw [List.length_set] at hj; exact hj
    by_cases e : i = j
    · subst e
      rw [List.getElem_set_self]
      exact hx
    · rw [List.getElem_set_ne e]
      exact four_other (h.2 j hj2).1 (by omega)
  · rw [World.frozen?_setCell]
    exact (h.2 i hi).2 q
theorem signs_len {s : ByteArray} : ∀ (n p : Nat) (l r : List Sg), s.size - p = n → signsF s p l = .ok r → r.length ≤ l.length + n := by
  intro n
  induction n using Nat.strongRecOn with
  | _ n ih =>
    intro p l r hn h
    by_cases hp : p < s.size
    · by_cases hb : blank (at_ s p)
      · rw [signs_blank hp hb] at h
        have := ih (s.size - (p + 1)) (by omega) (p + 1) l r rfl h
        omega
      · rcases sign_bd s p hp with e | ⟨q, e, h4, h5⟩
        · rw [signs_bad hp hb (by rw [e]; decide)] at h
          cases h
        · rw [signs_go hp hb e h4] at h
          have := ih (s.size - q) (by omega) q _ r rfl h
          rw [List.length_append] at this
          simp at this
          omega
    · rw [signs_end (by omega)] at h
      injection h with h
      subst h
      omega
theorem all_len (s : ByteArray) : (allF s).1.length ≤ s.size := by
  by_cases h1 : 20000 < s.size
  · rw [all_long h1]; exact Nat.zero_le _
  · cases hb : badAt s 0 with
    | some q => rw [all_bad h1 hb]; exact Nat.zero_le _
    | none =>
      cases hs : signsF s 0 [] with
      | error q => rw [all_sign h1 hb hs]; exact Nat.zero_le _
      | ok l =>
        rw [all_ok h1 hb hs]
        have := signs_len _ 0 [] l rfl hs
        simpa using this
end Go.Proofs.YtlnfbpdicjcpgaaGreatDoor.sign
