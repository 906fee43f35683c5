/- Quoted, plain: the bytes that each code point, and each byte, is written as. -/
import Derived.Test.YtegpcjkcejijpaaDoorRuneM
namespace Go.Proofs.YtegpcjkcejijpaaDoor.quote
open Go Go.RowKit
set_option linter.unusedVariables false

def fg (n : Nat) : UInt8 := if n < 10 then UInt8.ofNat (48 + n) else UInt8.ofNat (87 + n)
/-- A code point below 128 that is written otherwise. -/
def esc (n : Nat) : Option (List UInt8) :=
  if n = 34 then some [92, 34] else if n = 92 then some [92, 92] else if n = 8 then some [92, 98] else if n = 12 then some [92, 102]
  else if n = 10 then some [92, 110] else if n = 13 then some [92, 114] else if n = 9 then some [92, 116]
  else if n < 32 then some [92, 117, 48, 48, fg (n / 16), fg (n % 16)] else none
def qN (n : Nat) : List UInt8 := (esc n).getD (rune.encB n)
def qB (b : UInt8) : List UInt8 := (esc b.toNat).getD [b]
theorem esc_big {n : Nat} (h : 128 ≤ n) : esc n = none := by
  unfold esc
  rw [if_neg (by omega), if_neg (by omega), if_neg (by omega), if_neg (by omega), if_neg (by omega), if_neg (by omega), if_neg (by omega), if_neg (by omega)]
theorem esc_le {n : Nat} {l : List UInt8} (h : esc n = some l) : l.length ≤ 6 := by
  unfold esc at h
  repeat' split at h
  all_goals first | (injection h with h; subst h; simp) | cases h
theorem qB_le (b : UInt8) : (qB b).length ≤ 6 := by
  unfold qB
  cases h : esc b.toNat with
  | none => simp
  | some l => exact esc_le h
theorem qN_le (n : Nat) : (qN n).length ≤ 6 := by
  unfold qN
  cases h : esc n with
  | none => show (rune.encB n).length ≤ 6; rw [rune.encB_length]; have := rune.enc_le n; omega
  | some l => exact esc_le h
theorem flat_self : ∀ (l : List UInt8), (∀ b ∈ l, 128 ≤ b.toNat) → l.flatMap qB = l
  | [], _ => rfl
  | b :: r, h => by
    have h1 : qB b = [b] := by unfold qB; rw [esc_big (h b (List.mem_cons_self ..))]; rfl
    rw [List.flatMap_cons, h1, flat_self r (fun x hx => h x (List.mem_cons_of_mem _ hx))]
    rfl
theorem enc_hi {n : Nat} (h : rune.valid n) (h1 : 128 ≤ n) : ∀ b ∈ rune.enc n, 128 ≤ b := by
  unfold rune.enc
  rw [if_neg (by omega)]
  repeat' split
  all_goals
    intro b hb
    simp at hb
    omega
theorem enc_q {n : Nat} (h : rune.valid n) : (rune.encB n).flatMap qB = qN n := by
  by_cases h1 : n < 128
  · have e : rune.encB n = [UInt8.ofNat n] := by unfold rune.encB; rw [rune.enc1 h1]; rfl
    have e2 : (UInt8.ofNat n).toNat = n := by simp; omega
    unfold qN
    rw [e]
    simp only [List.flatMap_cons, List.flatMap_nil, List.append_nil, qB, e2]
  · unfold qN
    rw [esc_big (by omega)]
    show _ = rune.encB n
    refine flat_self _ ?_
    intro b hb
    unfold rune.encB at hb
    obtain ⟨x, hx, rfl⟩ := List.mem_map.1 hb
    have h2 := enc_hi h (by omega) x hx
    have h3 := rune.enc_lt h x hx
    simp
    omega
theorem cut_valid {s : ByteArray} : ∀ {b p : Nat} {l : List Int}, rune.cut s b p = some l → ∀ x ∈ l, ∃ n : Nat, x = (n : Int) ∧ rune.valid n := by
  intro b
  induction b with
  | zero =>
    intro p l h x hx
    unfold rune.cut at h
    split at h
    · cases h
    · injection h with h; subst h; cases hx
  | succ b ih =>
    intro p l h x hx
    by_cases hp : p < s.size
    · by_cases hn : (rune.atF s (p : Int)).2 < 0
      · rw [rune.cut_none hp hn] at h; cases h
      · obtain ⟨n, hi, e⟩ := rune.at_next hn
        rw [rune.cut_step hi] at h
        cases hc : rune.cut s b (p + (rune.enc n).length) with
        | none => rw [hc] at h; cases h
        | some r =>
          rw [hc] at h
          injection h with h
          subst h
          rcases List.mem_cons.1 hx with rfl | hx
          · exact ⟨n, rfl, hi.1⟩
          · exact ih hc x hx
    · rw [rune.cut_end (by omega)] at h
      injection h with h; subst h; cases hx
/-- What stands between the quotes, by code points and by bytes. -/
def byR (l : List Int) : List UInt8 := l.flatMap fun x => qN x.toNat
def byB (l : List UInt8) : List UInt8 := l.flatMap qB
theorem byR_snoc (l : List Int) (x : Int) : byR (l ++ [x]) = byR l ++ qN x.toNat := by simp [byR]
theorem byB_snoc (l : List UInt8) (b : UInt8) : byB (l ++ [b]) = byB l ++ qB b := by simp [byB]
theorem byR_join : ∀ (l : List Int), (∀ x ∈ l, ∃ n : Nat, x = (n : Int) ∧ rune.valid n) → byB (rune.joinL l) = byR l
  | [], _ => rfl
  | x :: r, h => by
    obtain ⟨n, rfl, hv⟩ := h x (List.mem_cons_self ..)
    have ih := byR_join r (fun y hy => h y (List.mem_cons_of_mem _ hy))
    unfold byB at ih ⊢
    rw [rune.joinL_cons, List.flatMap_append, ih, rune.text_yes hv]
    unfold byR
    rw [List.flatMap_cons]
    congr 1
    exact enc_q hv
theorem runes_q {s : ByteArray} {l : List Int} (h : rune.runesF s = some l) : byB s.data.toList = byR l := by
  have h1 : s.data.toList.drop 0 = rune.joinL l := rune.cut_join h
  rw [List.drop_zero] at h1
  rw [h1, byR_join l (fun x hx => cut_valid h x hx)]
theorem join_len : ∀ (l : List Int), (∀ x ∈ l, ∃ n : Nat, x = (n : Int) ∧ rune.valid n) → l.length ≤ (rune.joinL l).length
  | [], _ => Nat.zero_le _
  | x :: r, h => by
    obtain ⟨n, rfl, hv⟩ := h x (List.mem_cons_self ..)
    have ih := join_len r (fun y hy => h y (List.mem_cons_of_mem _ hy))
    have h1 := rune.enc_pos n
    have h2 : (rune.textF (n : Int)).data.toList.length = (rune.enc n).length := by
      have h3 := rune.text_size hv
      rw [← h3]; simp
    rw [rune.joinL_cons, List.length_append, List.length_cons]
    omega
theorem runes_len {s : ByteArray} {l : List Int} (h : rune.runesF s = some l) : l.length ≤ s.size := by
  have h1 : s.data.toList.drop 0 = rune.joinL l := rune.cut_join h
  have h2 := join_len l (fun x hx => cut_valid h x hx)
  have h3 : s.data.toList.length = s.size := by simp
  rw [List.drop_zero] at h1
  rw [← h1] at h2
  omega
/-- The quoted form of a text that has one. -/
def wrap (l : List UInt8) : ByteArray := ⟨((34 :: l) ++ [34]).toArray⟩
noncomputable def quotedF (s : ByteArray) : ByteArray := match rune.runesF s with
  | some l => wrap (byB s.data.toList)
  | none => ⟨#[]⟩
theorem quoted_yes {s : ByteArray} {l : List Int} (h : rune.runesF s = some l) : quotedF s = wrap (byB s.data.toList) := by unfold quotedF; rw [h]
theorem quoted_no {s : ByteArray} (h : rune.runesF s = none) : quotedF s = ⟨#[]⟩ := by unfold quotedF; rw [h]
end Go.Proofs.YtegpcjkcejijpaaDoor.quote
