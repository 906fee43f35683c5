/- Merged: WholeM QuoteM ScalarM PlainT. -/
import Derived.Test.YtbfkkaafkinpmaaGreatDoorGNum
import Derived.Lib.AtoiAllCases
import Derived.Test.YtbfkkaafkinpmaaGreatDoorRuneM
import Derived.Test.YtbfkkaafkinpmaaGreatDoorGLine
import Derived.Test.YtbfkkaafkinpmaaGreatDoorGTree
namespace Go.Proofs.YtbfkkaafkinpmaaGreatDoor.whole
open Go Go.RowKit
set_option linter.unusedVariables false

/-- How many digits stand from place p on. -/
def run (s : ByteArray) (p : Nat) : Nat := split.ld (s.data.toList.drop p)
def figs (s : ByteArray) (p : Nat) : List UInt8 := (s.data.toList.drop p).take (run s p)
def bad (s : ByteArray) (p : Nat) : Prop := run s p = 0 ∨ (1 < run s p ∧ at_ s p = 48) ∨ (p + run s p < s.size ∧ (at_ s (p + run s p) = 46 ∨ at_ s (p + run s p) = 101 ∨ at_ s (p + run s p) = 69))
instance (s : ByteArray) (p : Nat) : Decidable (bad s p) := by unfold bad; exact inferInstance
def head (s : ByteArray) (a : Nat) : Nat := if at_ s a = 45 then a + 1 else a
def spells (s : ByteArray) (p : Nat) : Nat := num.foldD 0 (figs s p)
def wholeN (s : ByteArray) (a : Nat) : Int × Int :=
  if bad s (head s a) then (0, -1)
  else if at_ s a = 45 then (if spells s (a + 1) ≤ 9223372036854775808 then (-(spells s (a + 1) : Int), ((a + 1 + run s (a + 1) : Nat) : Int)) else (0, -1))
  else if spells s a ≤ 9223372036854775807 then ((spells s a : Int), ((a + run s a : Nat) : Int)) else (0, -1)
def wholeF (s : ByteArray) (a : Int) : Int × Int := if 0 ≤ a ∧ a < s.size then wholeN s a.toNat else (0, -1)
theorem whole_out {s : ByteArray} {a : Int} (h : ¬ (0 ≤ a ∧ a < s.size)) : wholeF s a = (0, -1) := if_neg h
theorem whole_in {s : ByteArray} {a : Nat} (h : a < s.size) : wholeF s (a : Int) = wholeN s a := by
  unfold wholeF
  rw [if_pos ⟨by omega, by omega⟩, Int.toNat_natCast]

theorem run_le (s : ByteArray) (p : Nat) (hp : p ≤ s.size) : p + run s p ≤ s.size := by
  have h := split.ld_le (s.data.toList.drop p)
  have e : s.data.toList.length = s.size := by simp
  rw [List.length_drop, e] at h
  unfold run
  omega
theorem getD_drop (l : List UInt8) (p k : Nat) : (l.drop p).getD k 0 = l.getD (p + k) 0 := by
  simp [List.getD_eq_getElem?_getD, List.getElem?_drop]
theorem dig_at2 (s : ByteArray) (p k : Nat) : split.dig ((s.data.toList.drop p).getD k 0) = true ↔ 48 ≤ at_ s (p + k) ∧ at_ s (p + k) ≤ 57 := by
  rw [getD_drop]; exact split.dig_at s (p + k)
theorem run_dig {s : ByteArray} {p k : Nat} (h : k < run s p) : 48 ≤ at_ s (p + k) ∧ at_ s (p + k) ≤ 57 := (dig_at2 s p k).1 (split.ld_dig _ _ h)
theorem run_stop {s : ByteArray} {p : Nat} (h : p + run s p < s.size) : ¬ (48 ≤ at_ s (p + run s p) ∧ at_ s (p + run s p) ≤ 57) := fun e => by
  have e2 : s.data.toList.length = s.size := by simp
  have h1 := split.ld_stop (s.data.toList.drop p) (by rw [List.length_drop, e2]; unfold run at h; omega)
  have h2 := (dig_at2 s p (run s p)).2 e
  unfold run at h2
  rw [h1] at h2
  cases h2
theorem run_go {s : ByteArray} {p k : Nat} (h : k ≤ run s p) (hk : p + k < s.size) (h1 : 48 ≤ at_ s (p + k)) (h2 : at_ s (p + k) ≤ 57) : k + 1 ≤ run s p := by
  by_cases e : k = run s p
  · subst e; exact absurd ⟨h1, h2⟩ (run_stop hk)
  · omega
theorem run_end {s : ByteArray} {p k : Nat} (hp : p ≤ s.size) (h : k ≤ run s p) (hk : s.size ≤ p + k ∨ at_ s (p + k) < 48 ∨ 57 < at_ s (p + k)) : run s p = k := by
  by_cases e : k < run s p
  · have h1 := run_dig e
    have h2 := run_le s p hp
    omega
  · omega
theorem figs_length (s : ByteArray) (p : Nat) : (figs s p).length = run s p := by
  unfold figs run
  rw [List.length_take]
  have := split.ld_le (s.data.toList.drop p)
  omega
theorem figs_get (s : ByteArray) (p k : Nat) (h : k < run s p) : (((figs s p).getD k 0).toNat : Int) = at_ s (p + k) := by
  unfold figs at_
  rw [List.getD_eq_getElem?_getD, List.getElem?_take_of_lt h, List.getElem?_drop, List.getD_eq_getElem?_getD]
theorem figs_isD (s : ByteArray) (p : Nat) : ∀ c ∈ figs s p, num.isD c := by
  intro c hc
  obtain ⟨k, hk, rfl⟩ := List.getElem_of_mem hc
  have hk2 : k < run s p := by rw [figs_length] at hk; exact hk
  have h1 := run_dig hk2
  have h2 := figs_get s p k hk2
  rw [List.getD_eq_getElem?_getD, List.getElem?_eq_getElem hk, Option.getD_some] at h2
  unfold num.isD
  omega
theorem figs_extract (s : ByteArray) (p : Nat) : (s.extract p (p + run s p)).data.toList = figs s p := by
  rw [ByteArray.data_extract, Array.toList_extract, List.extract_eq_take_drop, Nat.add_sub_cancel_left]
  rfl
/-- No needless nought stands first. -/
def canon (l : List UInt8) : Prop := l ≠ [] ∧ (∀ c ∈ l, num.isD c) ∧ (l.length = 1 ∨ (l.getD 0 0).toNat ≠ 48)
theorem figs_canon {s : ByteArray} {p : Nat} (h : ¬ bad s p) : canon (figs s p) := by
  unfold bad at h
  refine ⟨fun e => h (.inl ?_), figs_isD s p, ?_⟩
  · rw [← figs_length, e]; rfl
  · rw [figs_length]
    by_cases e : run s p = 1
    · exact .inl e
    · right
      intro e2
      have h0 : 0 < run s p := by
        rcases Nat.eq_zero_or_pos (run s p) with e0 | e0
        · exact absurd (.inl e0) h
        · exact e0
      have := figs_get s p 0 h0
      rw [Nat.add_zero] at this
      exact h (.inr (.inl ⟨by omega, by omega⟩))
theorem fold_pos {l : List UInt8} (h : l ≠ []) (hd : ∀ c ∈ l, num.isD c) (h0 : (l.getD 0 0).toNat ≠ 48) : 1 ≤ num.foldD 0 l := by
  cases l with
  | nil => exact absurd rfl h
  | cons c r =>
    rw [num.foldD_cons]
    have h1 := hd c (List.mem_cons_self ..)
    unfold num.isD at h1
    simp at h0
    have h2 := num.foldD_ge r (10 * 0 + (c.toNat - 48))
    omega
theorem digit_one (c : UInt8) (h : num.isD c) : Lib.decDigits (c.toNat - 48) = [c] := by
  unfold num.isD at h
  rw [Lib.decDigits, dif_pos (by omega)]
  congr 1
  apply UInt8.toNat.inj
  have := c.toNat_lt
  simp
  omega
theorem canon_snoc : ∀ (n : Nat) (l : List UInt8), l.length = n → canon l → l = Lib.decDigits (num.foldD 0 l) := by
  intro n
  induction n with
  | zero => intro l hl h; exact absurd (List.eq_nil_of_length_eq_zero hl) h.1
  | succ n ih =>
    intro l hl h
    obtain ⟨r, c, rfl⟩ : ∃ r c, l = r ++ [c] := ⟨l.dropLast, l.getLast h.1, (List.dropLast_concat_getLast h.1).symm⟩
    have hc : num.isD c := h.2.1 c (by simp)
    have hr : r.length = n := by simpa using hl
    rw [num.foldD_snoc]
    have hc' := hc
    unfold num.isD at hc'
    cases r with
    | nil =>
      rw [num.foldD_nil]
      have := digit_one c hc
      simpa using this.symm
    | cons a r =>
      have ha : (a.toNat) ≠ 48 := by
        rcases h.2.2 with h1 | h1
        · simp at h1
        · simpa using h1
      have hcan : canon (a :: r) := ⟨by simp, fun x hx => h.2.1 x (List.mem_append_left _ hx), .inr (by simpa using ha)⟩
      have e := ih (a :: r) hr hcan
      have hp := fold_pos hcan.1 hcan.2.1 (by simpa using ha)
      generalize num.foldD 0 (a :: r) = u at e hp ⊢
      rw [Lib.decDigits, dif_neg (by omega), show (10 * u + (c.toNat - 48)) / 10 = u by omega, ← e]
      congr 1
      congr 1
      apply UInt8.toNat.inj
      have := c.toNat_lt
      simp
      omega
theorem canon_dec {l : List UInt8} (h : canon l) : l = Lib.decDigits (num.foldD 0 l) := canon_snoc _ l rfl h

theorem parse_any : ∀ (l : List UInt8) (acc : Nat), (∀ c ∈ l, num.isD c) → acc < 18446744073709551616 → Lib.parseUint10 acc l = if num.foldD acc l < 18446744073709551616 then .ok (num.foldD acc l) else .range
  | [], acc, _, h => by rw [num.foldD_nil, if_pos h]; rfl
  | c :: r, acc, hd, h => by
    have hc := hd c (List.mem_cons_self ..)
    unfold num.isD at hc
    rw [num.foldD_cons]
    have hge := num.foldD_ge r (10 * acc + (c.toNat - 48))
    rw [Lib.parseUint10, if_pos hc]
    by_cases h1 : 1844674407370955162 ≤ acc
    · rw [if_pos h1, if_neg (by omega)]
    rw [if_neg h1]
    by_cases h2 : 18446744073709551616 ≤ acc * 10 + (c.toNat - 48)
    · rw [if_pos h2, if_neg (by omega)]
    · rw [if_neg h2, show acc * 10 + (c.toNat - 48) = 10 * acc + (c.toNat - 48) by omega]
      exact parse_any r _ (fun x hx => hd x (List.mem_cons_of_mem _ hx)) (by omega)
theorem mag_any {l : List UInt8} (h : canon l) : Lib.parseMag l = if num.foldD 0 l < 18446744073709551616 then .ok (num.foldD 0 l) else .range := by
  unfold Lib.parseMag
  rw [if_neg h.1]
  exact parse_any l 0 h.2.1 (by omega)
theorem atoi_plain {l : List UInt8} (h : canon l) : Lib.atoiAll l = if num.foldD 0 l ≤ 9223372036854775807 then .ok (num.foldD 0 l : Int) else .range := by
  have hm := mag_any h
  cases l with
  | nil => exact absurd rfl h.1
  | cons c r =>
    have hc := h.2.1 c (List.mem_cons_self ..)
    unfold num.isD at hc
    rw [Lib.atoiAll_plain c r (by omega) (by omega), hm]
    generalize num.foldD 0 (c :: r) = u
    by_cases h1 : u < 18446744073709551616
    · rw [if_pos h1]
      show (if 9223372036854775808 ≤ u then _ else _) = _
      by_cases h2 : u ≤ 9223372036854775807
      · rw [if_neg (by omega), if_pos h2]
      · rw [if_pos (by omega), if_neg h2]
    · rw [if_neg h1, if_neg (by omega)]; rfl
theorem atoi_minus {l : List UInt8} (h : canon l) : Lib.atoiAll (45 :: l) = if num.foldD 0 l ≤ 9223372036854775808 then .ok (-(num.foldD 0 l : Int)) else .range := by
  have hm := mag_any h
  rw [Lib.atoiAll_minus l, hm]
  generalize num.foldD 0 l = u
  by_cases h1 : u < 18446744073709551616
  · rw [if_pos h1]
    show (if 9223372036854775808 < u then _ else _) = _
    by_cases h2 : u ≤ 9223372036854775808
    · rw [if_neg (by omega), if_pos h2]
    · rw [if_pos (by omega), if_neg h2]
  · rw [if_neg h1, if_neg (by omega)]; rfl
theorem num_canon {t : ByteArray} (h : canon t.data.toList) : readnum.flag 9223372036854775807 t = decide (num.foldD 0 t.data.toList ≤ 9223372036854775807) ∧ readnum.res 9223372036854775807 t = if num.foldD 0 t.data.toList ≤ 9223372036854775807 then (num.foldD 0 t.data.toList : Int) else 0 := by
  by_cases h1 : num.foldD 0 t.data.toList ≤ 9223372036854775807
  · have hn : readnum.Num 9223372036854775807 t (num.foldD 0 t.data.toList) := ⟨h1, canon_dec h⟩
    rw [readnum.yes_flag hn, readnum.yes_res hn, if_pos h1, decide_eq_true h1]
    exact ⟨rfl, rfl⟩
  · have hno : ∀ n, ¬ readnum.Num 9223372036854775807 t n := fun n hn => by
      have := hn.2
      rw [this, num.dec_fold] at h1
      exact h1 hn.1
    rw [readnum.no_flag hno, readnum.no_res hno, if_neg h1, decide_eq_false h1]
    exact ⟨rfl, rfl⟩
theorem least_list : Lib.decDigits 9223372036854775808 = [57, 50, 50, 51, 51, 55, 50, 48, 51, 54, 56, 53, 52, 55, 55, 53, 56, 48, 56] := by
  simp [Lib.decDigits]
theorem least_iff {t : ByteArray} (h : canon t.data.toList) : t = ⟨#[57, 50, 50, 51, 51, 55, 50, 48, 51, 54, 56, 53, 52, 55, 55, 53, 56, 48, 56]⟩ ↔ num.foldD 0 t.data.toList = 9223372036854775808 := by
  constructor
  · intro e
    rw [e]
    show num.foldD 0 [57, 50, 50, 51, 51, 55, 50, 48, 51, 54, 56, 53, 52, 55, 55, 53, 56, 48, 56] = _
    decide
  · intro e
    have h1 := canon_dec h
    rw [e, least_list] at h1
    apply ByteArray.ext
    apply Array.ext'
    exact h1
end Go.Proofs.YtbfkkaafkinpmaaGreatDoor.whole
namespace Go.Proofs.YtbfkkaafkinpmaaGreatDoor.quote
open Go Go.RowKit
set_option linter.unusedVariables false

def fg (n : Nat) : UInt8 := if n < 10 then UInt8.ofNat (48 + n) else UInt8.ofNat (87 + n)
/-- A code point below 128 that is written otherwise. -/
def esc (n : Nat) : Option (List UInt8) :=
  if n = 34 then some [92, 34] else if n = 92 then some [92, 92] else if n = 8 then some [92, 98] else if n = 12 then some [92, 102]
  else if n = 10 then some [92, 110] else if n = 13 then some [92, 114] else if n = 9 then some [92, 116]
  else if n < 32 then some [92, 117, 48, 48, fg (n / 16), fg (n % 16)] else none
def qN (n : Nat) : List UInt8 := (esc n).getD (rune.encB n)
def qB (b : UInt8) : List UInt8 := (esc b.toNat).getD [b]
theorem esc_big {n : Nat} (h : 128 ≤ n) : esc n = none := by
  unfold esc
  rw [if_neg (by omega), if_neg (by omega), if_neg (by omega), if_neg (by omega), if_neg (by omega), if_neg (by omega), if_neg (by omega), if_neg (by omega)]
theorem esc_le {n : Nat} {l : List UInt8} (h : esc n = some l) : l.length ≤ 6 := by
  unfold esc at h
  repeat' split at h
  all_goals first | (injection h with h; subst h; simp) | cases h
theorem qB_le (b : UInt8) : (qB b).length ≤ 6 := by
  unfold qB
  cases h : esc b.toNat with
  | none => simp
  | some l => exact esc_le h
theorem qN_le (n : Nat) : (qN n).length ≤ 6 := by
  unfold qN
  cases h : esc n with
  | none => show (rune.encB n).length ≤ 6; rw [rune.encB_length]; have := rune.enc_le n; omega
  | some l => exact esc_le h
theorem flat_self : ∀ (l : List UInt8), (∀ b ∈ l, 128 ≤ b.toNat) → l.flatMap qB = l
  | [], _ => rfl
  | b :: r, h => by
    have h1 : qB b = [b] := by unfold qB; rw [esc_big (h b (List.mem_cons_self ..))]; rfl
    rw [List.flatMap_cons, h1, flat_self r (fun x hx => h x (List.mem_cons_of_mem _ hx))]
    rfl
theorem enc_hi {n : Nat} (h : rune.valid n) (h1 : 128 ≤ n) : ∀ b ∈ rune.enc n, 128 ≤ b := by
  unfold rune.enc
  rw [if_neg (by omega)]
  repeat' split
  all_goals
    intro b hb
    simp at hb
    omega
theorem enc_q {n : Nat} (h : rune.valid n) : (rune.encB n).flatMap qB = qN n := by
  by_cases h1 : n < 128
  · have e : rune.encB n = [UInt8.ofNat n] := by unfold rune.encB; rw [rune.enc1 h1]; rfl
    have e2 : (UInt8.ofNat n).toNat = n := by simp; omega
    unfold qN
    rw [e]
    simp only [List.flatMap_cons, List.flatMap_nil, List.append_nil, qB, e2]
  · unfold qN
    rw [esc_big (by omega)]
    show _ = rune.encB n
    refine flat_self _ ?_
    intro b hb
    unfold rune.encB at hb
    obtain ⟨x, hx, rfl⟩ := List.mem_map.1 hb
    have h2 := enc_hi h (by omega) x hx
    have h3 := rune.enc_lt h x hx
    simp
    omega
theorem cut_valid {s : ByteArray} : ∀ {b p : Nat} {l : List Int}, rune.cut s b p = some l → ∀ x ∈ l, ∃ n : Nat, x = (n : Int) ∧ rune.valid n := by
  intro b
  induction b with
  | zero =>
    intro p l h x hx
    unfold rune.cut at h
    split at h
    · cases h
    · injection h with h; subst h; cases hx
  | succ b ih =>
    intro p l h x hx
    by_cases hp : p < s.size
    · by_cases hn : (rune.atF s (p : Int)).2 < 0
      · rw [rune.cut_none hp hn] at h; cases h
      · obtain ⟨n, hi, e⟩ := rune.at_next hn
        rw [rune.cut_step hi] at h
        cases hc : rune.cut s b (p + (rune.enc n).length) with
        | none => rw [hc] at h; cases h
        | some r =>
          rw [hc] at h
          injection h with h
          subst h
          rcases List.mem_cons.1 hx with rfl | hx
          · exact ⟨n, rfl, hi.1⟩
          · exact ih hc x hx
    · rw [rune.cut_end (by omega)] at h
      injection h with h; subst h; cases hx
/-- What stands between the quotes, by code points and by bytes. -/
def byR (l : List Int) : List UInt8 := l.flatMap fun x => qN x.toNat
def byB (l : List UInt8) : List UInt8 := l.flatMap qB
theorem byR_snoc (l : List Int) (x : Int) : byR (l ++ [x]) = byR l ++ qN x.toNat := by simp [byR]
theorem byB_snoc (l : List UInt8) (b : UInt8) : byB (l ++ [b]) = byB l ++ qB b := by simp [byB]
theorem byR_join : ∀ (l : List Int), (∀ x ∈ l, ∃ n : Nat, x = (n : Int) ∧ rune.valid n) → byB (rune.joinL l) = byR l
  | [], _ => rfl
  | x :: r, h => by
    obtain ⟨n, rfl, hv⟩ := h x (List.mem_cons_self ..)
    have ih := byR_join r (fun y hy => h y (List.mem_cons_of_mem _ hy))
    unfold byB at ih ⊢
    rw [rune.joinL_cons, List.flatMap_append, ih, rune.text_yes hv]
    unfold byR
    rw [List.flatMap_cons]
    congr 1
    exact enc_q hv
theorem runes_q {s : ByteArray} {l : List Int} (h : rune.runesF s = some l) : byB s.data.toList = byR l := by
  have h1 : s.data.toList.drop 0 = rune.joinL l := rune.cut_join h
  rw [List.drop_zero] at h1
  rw [h1, byR_join l (fun x hx => cut_valid h x hx)]
theorem join_len : ∀ (l : List Int), (∀ x ∈ l, ∃ n : Nat, x = (n : Int) ∧ rune.valid n) → l.length ≤ (rune.joinL l).length
  | [], _ => Nat.zero_le _
  | x :: r, h => by
    obtain ⟨n, rfl, hv⟩ := h x (List.mem_cons_self ..)
    have ih := join_len r (fun y hy => h y (List.mem_cons_of_mem _ hy))
    have h1 := rune.enc_pos n
    have h2 : (rune.textF (n : Int)).data.toList.length = (rune.enc n).length := by
      have h3 := rune.text_size hv
      rw [← h3]; simp
    rw [rune.joinL_cons, List.length_append, List.length_cons]
    omega
theorem runes_len {s : ByteArray} {l : List Int} (h : rune.runesF s = some l) : l.length ≤ s.size := by
  have h1 : s.data.toList.drop 0 = rune.joinL l := rune.cut_join h
  have h2 := join_len l (fun x hx => cut_valid h x hx)
  have h3 : s.data.toList.length = s.size := by simp
  rw [List.drop_zero] at h1
  rw [← h1] at h2
  omega
/-- The quoted form of a text that has one. -/
def wrap (l : List UInt8) : ByteArray := ⟨((34 :: l) ++ [34]).toArray⟩
noncomputable def quotedF (s : ByteArray) : ByteArray := match rune.runesF s with
  | some l => wrap (byB s.data.toList)
  | none => ⟨#[]⟩
theorem quoted_yes {s : ByteArray} {l : List Int} (h : rune.runesF s = some l) : quotedF s = wrap (byB s.data.toList) := by unfold quotedF; rw [h]
theorem quoted_no {s : ByteArray} (h : rune.runesF s = none) : quotedF s = ⟨#[]⟩ := by unfold quotedF; rw [h]
end Go.Proofs.YtbfkkaafkinpmaaGreatDoor.quote
namespace Go.Proofs.YtbfkkaafkinpmaaGreatDoor.line
open Go.ChangeShapes Go.WideShapes Go.ChangeAt Go.RowKit
set_option linter.unusedVariables false

/-- A tree of one value. -/
def leafT (k : Int) (f : Bool) (n : Int) (s : ByteArray) : tree.T := .mk k f n s [] []
/-- The value of a text by its words; none: it is no word. -/
def wordT (l : List UInt8) : Option tree.T :=
  if l = [91, 93] then some (leafT 5 false 0 ⟨#[]⟩)
  else if l = [123, 125] then some (leafT 6 false 0 ⟨#[]⟩)
  else if l = [110, 117, 108, 108] ∨ l = [126] then some (leafT 1 false 0 ⟨#[]⟩)
  else if l = [116, 114, 117, 101] then some (leafT 2 true 0 ⟨#[]⟩)
  else if l = [102, 97, 108, 115, 101] then some (leafT 2 false 0 ⟨#[]⟩)
  else none
/-- A text that is no word. -/
noncomputable def valT (s : ByteArray) : Option tree.T :=
  if 0 < s.size ∧ at_ s 0 = 34 then
    if (readq.readF s 0).2 = (s.size : Int) ∧ (readq.readF s 0).1.size ≤ 400 then some (leafT 4 false 0 (readq.readF s 0).1) else none
  else if (whole.wholeF s 0).2 = (s.size : Int) ∧ 0 < (whole.wholeF s 0).2 then some (leafT 3 false (whole.wholeF s 0).1 ⟨#[]⟩)
  else if plainF s = true then some (leafT 4 false 0 s)
  else none
noncomputable def scalarF (s : ByteArray) : Option tree.T := (wordT s.data.toList).or (valT s)
/-- A key or a text as it is told. -/
noncomputable def keyT (s : ByteArray) : ByteArray := if plainF s = true then s else quote.quotedF s
noncomputable def inlineF (s : ByteArray) : Option tree.T := scalarF (trimL (bare s))
end Go.Proofs.YtbfkkaafkinpmaaGreatDoor.line
namespace Go.Proofs.YtbfkkaafkinpmaaGreatDoor.line
open Go.ChangeShapes Go.WideShapes Go.ChangeAt Go.RowKit
set_option linter.unusedVariables false

theorem ex_all (s : ByteArray) : s.extract 0 s.size = s := by
  have h : (s.extract 0 s.size).data.toList = s.data.toList := by
    rw [ex0_list]
    exact List.take_of_length_le (by rw [len_list]; exact Nat.le_refl _)
  rw [mk_eq h]
theorem trimR_all (s : ByteArray) : Lib.trimRightB s.data.toList 32 = s.data.toList.take (rt s s.size) := by
  have h := trimR_is s s.size (Nat.le_refl _)
  rw [ex_all] at h
  have h2 := congrArg (fun t : ByteArray => t.data.toList) h
  simp only [ex0_list] at h2
  exact h2
theorem trim_yes {s : ByteArray} (h0 : 0 < s.size) (h1 : at_ s 0 ≠ 32) (h2 : at_ s (s.size - 1) ≠ 32) : Lib.trimB s.data.toList 32 = s.data.toList := by
  unfold Lib.trimB
  rw [trimR_all, rt_end (.inr h2), List.take_of_length_le (by rw [len_list]; exact Nat.le_refl _), trim_isp]
  have : ind s = 0 := ind_end (Nat.zero_le _) (.inr h1)
  unfold ind at this
  rw [this]; rfl
theorem trim_no {s : ByteArray} (h0 : 0 < s.size) (h : at_ s 0 = 32 ∨ at_ s (s.size - 1) = 32) : Lib.trimB s.data.toList 32 ≠ s.data.toList := by
  intro e
  unfold Lib.trimB at e
  rw [trimR_all, trim_isp] at e
  have hl := congrArg List.length e
  rw [List.length_drop, List.length_take, len_list] at hl
  have hr := rt_le s s.size
  by_cases c : at_ s (s.size - 1) = 32
  · have h3 := rt_go h0 c
    have h4 := rt_le s (s.size - 1)
    omega
  · rw [rt_end (.inr c)] at hl e
    rw [List.take_of_length_le (by rw [len_list]; exact Nat.le_refl _)] at hl e
    have h5 := ind_go (s := s) (k := 0) (Nat.zero_le _) h0 (by rcases h with h | h; exact h; exact absurd h c)
    unfold ind at h5
    omega
theorem trim_eq {s : ByteArray} (h0 : 0 < s.size) : ((⟨(Lib.trimB s.data.toList 32).toArray⟩ : ByteArray).toList == s.toList) = decide (at_ s 0 ≠ 32 ∧ at_ s (s.size - 1) ≠ 32) := by
  rw [ByteArray.toList_eq, ByteArray.toList_eq]
  by_cases c : at_ s 0 ≠ 32 ∧ at_ s (s.size - 1) ≠ 32
  · rw [decide_eq_true c, beq_iff_eq]
    exact trim_yes h0 c.1 c.2
  · rw [decide_eq_false c, beq_eq_false_iff_ne]
    exact trim_no h0 (by omega)
theorem figs_lead (s : ByteArray) : split.lead s = s.size ↔ Figs s := by
  have hl := split.lead_le s
  constructor
  · intro e k hk
    exact split.lead_dig (by omega)
  · intro h
    by_cases c : split.lead s < s.size
    · exact absurd (h _ c) (split.lead_stop c)
    · omega
theorem figs_snd (s : ByteArray) : (split.snd s).toList.isEmpty = decide (Figs s) := by
  have hz := split.snd_size s
  have hl := split.lead_le s
  by_cases c : Figs s
  · rw [decide_eq_true c]
    exact empty_yes (by have := (figs_lead s).2 c; omega)
  · rw [decide_eq_false c]
    refine empty_no ?_
    have h : split.lead s ≠ s.size := fun e => c ((figs_lead s).1 e)
    omega
def isFirst (x : Int) : Bool := firsts.any fun b => decide (x = (b.toNat : Int))
theorem isFirst_no {x : Int} (h : isFirst x = false) : ∀ b ∈ firsts, x ≠ (b.toNat : Int) := by
  intro b hb e
  have : isFirst x = true := List.any_eq_true.2 ⟨b, hb, decide_eq_true e⟩
  rw [h] at this
  cases this
theorem isFirst_yes {x : Int} (h : isFirst x = true) : ¬ ∀ b ∈ firsts, x ≠ (b.toNat : Int) := by
  obtain ⟨b, hb, e⟩ := List.any_eq_true.1 h
  exact fun h2 => h2 b hb (of_decide_eq_true e)
theorem first_all : ∀ n : Fin 256, decide (Lib.indexByte firsts (UInt8.ofNat n.val) < 0) = ! isFirst (n.val : Int) := by decide +kernel
theorem first_index (x : Int) (h0 : 0 ≤ x) (h1 : x < 256) : decide (Lib.indexByte firsts (UInt8.ofNat x.toNat) < 0) = ! isFirst x := by
  have h := first_all ⟨x.toNat, by omega⟩
  simp only at h
  rw [h]
  congr 2
  omega
/-- Where a text's bytes are fine (what impl asks ahead of the rest). -/
def Bytes (s : ByteArray) : Prop := (∀ k, k < s.size → ¬ odd (at_ s k)) ∧ at_ s 0 ≠ 32 ∧ at_ s (s.size - 1) ≠ 32 ∧ isFirst (at_ s 0) = false
noncomputable instance (s : ByteArray) : Decidable (Bytes s) := Classical.propDecidable _
theorem plain_of {s : ByteArray} (h0 : 0 < s.size) (h1 : s.size ≤ 400) (h2 : (rune.runesF s).isSome = true) (h3 : Bytes s) (h4 : ke s = -1) (h5 : ¬ Figs s) (h6 : s.data.toList ∉ wordsL) : plainF s = true := by
  refine plain_yes ⟨h0, h1, h2, h3.2.1, h3.2.2.1, isFirst_no h3.2.2.2, fun k hk => ⟨h3.1 k hk, ?_⟩, h5, h6⟩
  rcases ke_cases s with ⟨n, e, _⟩ | ⟨_, e⟩
  · omega
  · exact e k
theorem plain_bytes {s : ByteArray} (h : Plain s) : Bytes s := by
  refine ⟨fun k hk => (h.all k hk).1, h.bl, h.br, ?_⟩
  cases e : isFirst (at_ s 0) with
  | false => rfl
  | true => exact absurd h.first (isFirst_yes e)
theorem plain_ke {s : ByteArray} (h : Plain s) : ke s = -1 := ke_no fun j hj => (h.all j hj.1).2 hj
end Go.Proofs.YtbfkkaafkinpmaaGreatDoor.line
