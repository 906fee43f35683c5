/- Merged: Num ReadNumM NumTop SplitM. -/
import Derived.Lib.ItoaNum
import Derived.Lib.AtoiAllCases
import Derived.Test.YtbfkkaafkinpmaaGreatDoorBase
import Derived.Test.YtbfkkaafkinpmaaGreatDoorRows
import Derived.ProofKit
import Derived.OpenShut
namespace Go.Proofs.YtbfkkaafkinpmaaGreatDoor.num
open Go

def isD (c : UInt8) : Prop := 48 ≤ c.toNat ∧ c.toNat ≤ 57
def stepD (n : Nat) (c : UInt8) : Nat := 10 * n + (c.toNat - 48)
def foldD (acc : Nat) (l : List UInt8) : Nat := l.foldl stepD acc
theorem foldD_nil (acc : Nat) : foldD acc [] = acc := by simp only [foldD, List.foldl_nil]
theorem foldD_cons (acc : Nat) (c : UInt8) (r : List UInt8) : foldD acc (c :: r) = foldD (10 * acc + (c.toNat - 48)) r := by simp only [foldD, List.foldl_cons, stepD]
theorem foldD_snoc (l : List UInt8) (c : UInt8) (acc : Nat) : foldD acc (l ++ [c]) = 10 * foldD acc l + (c.toNat - 48) := by simp only [foldD, List.foldl_append, List.foldl_cons, List.foldl_nil, stepD]
theorem foldD_ge (l : List UInt8) : ∀ acc : Nat, acc ≤ foldD acc l := by
  induction l with
  | nil => intro acc; rw [foldD_nil]; exact Nat.le_refl _
  | cons c l ih =>
    intro acc
    rw [foldD_cons]
    exact Nat.le_trans (by omega) (ih _)
theorem foldD_lt (l : List UInt8) : ∀ (acc k : Nat), (∀ c ∈ l, isD c) → acc < 10 ^ k → foldD acc l < 10 ^ (k + l.length) := by
  induction l with
  | nil => intro acc k _ h; rw [foldD_nil]; exact h
  | cons c l ih =>
    intro acc k hd h
    have hc := hd c (by simp)
    unfold isD at hc
    have h2 : 10 * acc + (c.toNat - 48) < 10 ^ (k + 1) := by
      rw [Nat.pow_succ]
      generalize 10 ^ k = m at h
      omega
    rw [foldD_cons]
    have := ih _ (k + 1) (fun x hx => hd x (by simp [hx])) h2
    rw [List.length_cons, show k + (l.length + 1) = k + 1 + l.length by omega]
    exact this

theorem dec_isD (u : Nat) : ∀ c ∈ Lib.decDigits u, isD c := by
  induction u using Nat.strongRecOn with
  | _ u ih =>
    intro c hc
    rw [Lib.decDigits] at hc
    by_cases h : u < 10
    · rw [dif_pos h] at hc
      simp only [List.mem_singleton] at hc
      subst hc
      unfold isD
      simp
      omega
    · rw [dif_neg h] at hc
      rcases List.mem_append.1 hc with h1 | h1
      · exact ih (u / 10) (by omega) c h1
      · simp only [List.mem_singleton] at h1
        subst h1
        unfold isD
        simp
        omega
theorem dec_fold (u : Nat) : foldD 0 (Lib.decDigits u) = u := by
  induction u using Nat.strongRecOn with
  | _ u ih =>
    rw [Lib.decDigits]
    by_cases h : u < 10
    · rw [dif_pos h, foldD_cons, foldD_nil]; simp; omega
    · rw [dif_neg h, foldD_snoc, ih (u / 10) (by omega)]
      simp
      omega
theorem dec_ne (u : Nat) : Lib.decDigits u ≠ [] := by
  rw [Lib.decDigits]
  by_cases h : u < 10
  · rw [dif_pos h]; simp
  · rw [dif_neg h]; simp
theorem dec_len : ∀ (k u : Nat), u < 10 ^ (k + 1) → (Lib.decDigits u).length ≤ k + 1
  | 0, u, h => by rw [Lib.decDigits, dif_pos (by simpa using h)]; simp
  | k + 1, u, h => by
    rw [Lib.decDigits]
    by_cases h1 : u < 10
    · rw [dif_pos h1]; simp
    · rw [dif_neg h1]
      have := dec_len k (u / 10) (by rw [Nat.pow_succ] at h; omega)
      simp; omega

theorem parse_fold (l : List UInt8) : ∀ acc : Nat, (∀ c ∈ l, isD c) → foldD acc l < 9223372036854775808 → Lib.parseUint10 acc l = .ok (foldD acc l) := by
  induction l with
  | nil => intro acc _ _; rw [foldD_nil, Lib.parseUint10]
  | cons c l ih =>
    intro acc hd hb
    have hc := hd c (by simp)
    unfold isD at hc
    rw [foldD_cons] at hb ⊢
    have hge := foldD_ge l (10 * acc + (c.toNat - 48))
    have hr := ih (10 * acc + (c.toNat - 48)) (fun x hx => hd x (by simp [hx])) hb
    have h2 : 10 * acc + (c.toNat - 48) < 9223372036854775808 := Nat.lt_of_le_of_lt hge hb
    rw [Lib.parseUint10, if_pos hc, if_neg (by omega), if_neg (by omega), show acc * 10 + (c.toNat - 48) = 10 * acc + (c.toNat - 48) by omega]
    exact hr

theorem itoa_nat (u : Nat) : Lib.itoa (u : Int) = Lib.decDigits u := by unfold Lib.itoa; rw [if_neg (by omega)]; simp
theorem atoi_dec (u : Nat) (h : u < 9223372036854775808) : Lib.atoiAll (Lib.decDigits u) = .ok (u : Int) := by
  have hne := dec_ne u
  have hd := dec_isD u
  have hf := dec_fold u
  have hp := parse_fold (Lib.decDigits u) 0 hd (by rw [hf]; exact h)
  rw [hf] at hp
  cases hl : Lib.decDigits u with
  | nil => exact absurd hl hne
  | cons c r =>
    rw [hl] at hd hp
    have hc := hd c (by simp)
    unfold isD at hc
    rw [Lib.atoiAll_plain c r (by omega) (by omega)]
    unfold Lib.parseMag
    rw [if_neg (by simp), hp]
    unfold Lib.signless
    simp only
    rw [if_neg (by omega)]
end Go.Proofs.YtbfkkaafkinpmaaGreatDoor.num
namespace Go.Proofs.YtbfkkaafkinpmaaGreatDoor.readnum
open Go.ChangeShapes Go.WideShapes Go.ChangeAt Go.RowKit
set_option linter.unusedVariables false

/-- What the first k bytes spell. -/
def v (s : ByteArray) (k : Nat) : Nat := num.foldD 0 (s.data.toList.take k)
def Num (m : Nat) (s : ByteArray) (n : Nat) : Prop := n ≤ m ∧ s.data.toList = Lib.decDigits n
theorem num_v {m : Nat} {s : ByteArray} {n : Nat} (h : Num m s n) : v s s.size = n := by
  unfold v
  rw [List.take_of_length_le (by simp), h.2, num.dec_fold]
theorem num_len {m : Nat} {s : ByteArray} {n : Nat} (h : Num m s n) (k : Nat) (hk : m < 10 ^ (k + 1)) : s.size ≤ k + 1 := by
  have h1 := num.dec_len k n (Nat.lt_of_le_of_lt h.1 hk)
  rw [← h.2] at h1
  simpa using h1
theorem num_dig {m : Nat} {s : ByteArray} {n : Nat} (h : Num m s n) (k : Nat) (hk : k < s.size) : 48 ≤ at_ s k ∧ at_ s k ≤ 57 := by
  have h2 : k < s.data.toList.length := by simpa using hk
  have h1 := num.dec_isD n (s.data.toList[k]) (by rw [← h.2]; exact List.getElem_mem h2)
  unfold num.isD at h1
  unfold at_
  rw [List.getD_eq_getElem?_getD, List.getElem?_eq_getElem h2]
  simp only [Option.getD_some]
  omega
open Classical in
noncomputable def flag (m : Nat) (s : ByteArray) : Bool := decide (∃ n, Num m s n)
open Classical in
noncomputable def res (m : Nat) (s : ByteArray) : Int := if ∃ n, Num m s n then (v s s.size : Int) else 0
theorem no_flag {m : Nat} {s : ByteArray} (h : ∀ n, ¬ Num m s n) : flag m s = false := by
  unfold flag
  have h2 : ¬ ∃ n, Num m s n := fun ⟨n, hn⟩ => h n hn
  simp [h2]
theorem no_res {m : Nat} {s : ByteArray} (h : ∀ n, ¬ Num m s n) : res m s = 0 := by
  unfold res; rw [if_neg (fun ⟨n, hn⟩ => h n hn)]
theorem yes_flag {m : Nat} {s : ByteArray} {n : Nat} (h : Num m s n) : flag m s = true := by
  unfold flag
  have h2 : ∃ n, Num m s n := ⟨n, h⟩
  simp [h2]
theorem yes_res {m : Nat} {s : ByteArray} {n : Nat} (h : Num m s n) : res m s = (n : Int) := by
  unfold res; rw [if_pos ⟨n, h⟩, num_v h]

theorem v_zero (s : ByteArray) : v s 0 = 0 := by unfold v; rw [List.take_zero, num.foldD_nil]
theorem v_step (s : ByteArray) (k : Nat) (hk : k < s.size) (h : 48 ≤ at_ s k) : (v s (k + 1) : Int) = 10 * (v s k : Int) + at_ s k - 48 := by
  have e := at_eq s k hk
  unfold v
  rw [take_snoc s k hk, num.foldD_snoc]
  omega
theorem v_mono (s : ByteArray) (k : Nat) : v s k ≤ v s s.size := by
  have e : v s s.size = num.foldD (v s k) (s.data.toList.drop k) := by
    unfold v
    rw [List.take_of_length_le (by simp)]
    unfold num.foldD
    rw [← List.foldl_append, List.take_append_drop]
  rw [e]
  exact num.foldD_ge _ _
def digs (s : ByteArray) (k : Nat) : Prop := ∀ j, j < k → 48 ≤ at_ s j ∧ at_ s j ≤ 57
theorem v_lt (s : ByteArray) : ∀ k, k ≤ s.size → digs s k → v s k < 10 ^ k
  | 0, _, _ => by rw [v_zero]; exact Nat.one_pos
  | k + 1, hk, hd => by
    have ih := v_lt s k (by omega) (fun j hj => hd j (by omega))
    have h1 := hd k (by omega)
    have h2 := v_step s k (by omega) h1.1
    rw [Nat.pow_succ]
    generalize 10 ^ k = m at ih
    omega
theorem v_bd (s : ByteArray) (k : Nat) (hk : k ≤ s.size) (hd : digs s k) (h10 : k ≤ 10) : v s k < 10000000000 :=
  Nat.lt_of_lt_of_le (v_lt s k hk hd) (Nat.le_trans (Nat.pow_le_pow_right (by omega) h10) (by decide))
end Go.Proofs.YtbfkkaafkinpmaaGreatDoor.readnum
namespace Go.Proofs.YtbfkkaafkinpmaaGreatDoor.readnum
open Go.ChangeShapes Go.WideShapes Go.ChangeAt Go.RowKit
set_option linter.unusedVariables false

theorem top_dec : Lib.decDigits 9223372036854775807 = [57, 50, 50, 51, 51, 55, 50, 48, 51, 54, 56, 53, 52, 55, 55, 53, 56, 48, 55] := by
  simp [Lib.decDigits]
theorem top_yes : Num 9223372036854775807 ⟨#[57, 50, 50, 51, 51, 55, 50, 48, 51, 54, 56, 53, 52, 55, 55, 53, 56, 48, 55]⟩ 9223372036854775807 := ⟨Nat.le_refl _, top_dec.symm⟩
theorem above_no (n : Nat) : ¬ Num 9223372036854775807 ⟨#[57, 50, 50, 51, 51, 55, 50, 48, 51, 54, 56, 53, 52, 55, 55, 53, 56, 48, 56]⟩ n := by
  rintro ⟨h1, h2⟩
  have h3 := num.dec_fold n
  rw [← h2] at h3
  have h4 : num.foldD 0 [57, 50, 50, 51, 51, 55, 50, 48, 51, 54, 56, 53, 52, 55, 55, 53, 56, 48, 56] = 9223372036854775808 := by decide
  have h5 : num.foldD 0 [57, 50, 50, 51, 51, 55, 50, 48, 51, 54, 56, 53, 52, 55, 55, 53, 56, 48, 56] = n := h3
  omega
theorem neg_no (m : Nat) (k : Int) (hk : k < 0) (n : Nat) : ¬ Num m ⟨(Lib.itoa k).toArray⟩ n := by
  rintro ⟨h1, h2⟩
  have h3 : Lib.itoa k = Lib.decDigits n := h2
  have h4 : (45 : UInt8) ∈ Lib.itoa k := by rw [Lib.itoa, if_pos hk]; simp
  rw [h3] at h4
  have h5 := num.dec_isD n 45 h4
  unfold num.isD at h5
  exact absurd h5.1 (by decide)
theorem pos_yes (k : Int) (h0 : 0 ≤ k) (h1 : k ≤ 9223372036854775807) : ∃ n : Nat, k = (n : Int) ∧ Num 9223372036854775807 ⟨(Lib.itoa k).toArray⟩ n ∧ (⟨(Lib.itoa k).toArray⟩ : ByteArray).size ≤ 20 := by
  obtain ⟨n, rfl⟩ := Int.eq_ofNat_of_zero_le h0
  refine ⟨n, rfl, ⟨by omega, ?_⟩, ?_⟩
  · show Lib.itoa (n : Int) = _
    rw [num.itoa_nat]
  · show (Lib.itoa (n : Int)).toArray.size ≤ 20
    rw [List.size_toArray, num.itoa_nat]
    have := num.dec_len 18 n (by omega)
    omega
theorem neg_len (k : Int) (h0 : k < 0) (h1 : -9223372036854775808 ≤ k) : (⟨(Lib.itoa k).toArray⟩ : ByteArray).size ≤ 20 := by
  show (Lib.itoa k).toArray.size ≤ 20
  rw [List.size_toArray, Lib.itoa, if_pos h0]
  simp only [List.length_cons]
  have := num.dec_len 18 k.natAbs (by omega)
  omega
end Go.Proofs.YtbfkkaafkinpmaaGreatDoor.readnum
namespace Go.Proofs.YtbfkkaafkinpmaaGreatDoor.split
open Go.ChangeShapes Go.WideShapes Go.ChangeAt Go.RowKit
set_option linter.unusedVariables false

def dig (b : UInt8) : Bool := decide (48 ≤ b.toNat) && decide (b.toNat ≤ 57)
def ld : List UInt8 → Nat
  | [] => 0
  | b :: r => if dig b = true then ld r + 1 else 0
theorem ld_le : ∀ l : List UInt8, ld l ≤ l.length
  | [] => Nat.le_refl _
  | b :: r => by
    have := ld_le r
    unfold ld
    split <;> simp only [List.length_cons] <;> omega
theorem ld_dig : ∀ (l : List UInt8) (k : Nat), k < ld l → dig (l.getD k 0) = true
  | [], k, h => by simp [ld] at h
  | b :: r, k, h => by
    unfold ld at h
    split at h
    · next hb =>
      cases k with
      | zero => simpa using hb
      | succ k => have := ld_dig r k (by omega); simpa using this
    · omega
theorem ld_stop : ∀ (l : List UInt8), ld l < l.length → dig (l.getD (ld l) 0) = false
  | [], h => by simp [ld] at h
  | b :: r, h => by
    unfold ld at h ⊢
    by_cases hb : dig b = true
    · rw [if_pos hb] at h ⊢
      have := ld_stop r (by simp only [List.length_cons] at h; omega)
      simpa using this
    · rw [if_neg hb]; simpa using hb
theorem ld_app : ∀ (l r : List UInt8), (∀ c ∈ l, dig c = true) → ld (l ++ r) = l.length + ld r
  | [], r, _ => by simp
  | b :: l, r, h => by
    have ih := ld_app l r (fun c hc => h c (List.mem_cons_of_mem _ hc))
    rw [List.cons_append, ld, if_pos (h b (List.mem_cons_self ..)), ih, List.length_cons]
    omega
def lead (s : ByteArray) : Nat := ld s.data.toList
theorem dig_at (s : ByteArray) (k : Nat) : dig (s.data.toList.getD k 0) = true ↔ 48 ≤ at_ s k ∧ at_ s k ≤ 57 := by
  unfold dig at_
  simp only [Bool.and_eq_true, decide_eq_true_eq]
  omega
theorem lead_le (s : ByteArray) : lead s ≤ s.size := by
  have h := ld_le s.data.toList
  have e : s.data.toList.length = s.size := by simp
  unfold lead
  omega
theorem lead_dig {s : ByteArray} {k : Nat} (h : k < lead s) : 48 ≤ at_ s k ∧ at_ s k ≤ 57 := (dig_at s k).1 (ld_dig _ _ h)
theorem lead_stop {s : ByteArray} (h : lead s < s.size) : ¬ (48 ≤ at_ s (lead s) ∧ at_ s (lead s) ≤ 57) := fun e => by
  have h1 := ld_stop s.data.toList (by have e : s.data.toList.length = s.size := by simp
                                       unfold lead at h; omega)
  have h2 := (dig_at s (lead s)).2 e
  unfold lead at h2
  rw [h1] at h2
  cases h2
theorem lead_go {s : ByteArray} {k : Nat} (h : k ≤ lead s) (hk : k < s.size) (h1 : 48 ≤ at_ s k) (h2 : at_ s k ≤ 57) : k + 1 ≤ lead s := by
  by_cases e : k = lead s
  · subst e; exact absurd ⟨h1, h2⟩ (lead_stop hk)
  · omega
theorem lead_end {s : ByteArray} {k : Nat} (h : k ≤ lead s) (hk : k = s.size ∨ at_ s k < 48 ∨ 57 < at_ s k) : lead s = k := by
  by_cases e : k < lead s
  · have h1 := lead_dig e
    have h2 := lead_le s
    omega
  · omega
/-- The digits, and the rest. -/
def fst (s : ByteArray) : ByteArray := s.extract 0 (lead s)
def snd (s : ByteArray) : ByteArray := s.extract (lead s) s.size
theorem fst_size (s : ByteArray) : (fst s).size = lead s := by
  have := lead_le s
  unfold fst
  simp
  omega
theorem snd_size (s : ByteArray) : (snd s).size = s.size - lead s := by
  have := lead_le s
  unfold snd
  simp
theorem fst_list (s : ByteArray) : (fst s).data.toList = s.data.toList.take (lead s) := by
  unfold fst
  simp
theorem snd_list (s : ByteArray) : (snd s).data.toList = s.data.toList.drop (lead s) := by
  unfold snd
  simp
  rw [List.take_of_length_le]
  simp
theorem mk_eq {s : ByteArray} {l : List UInt8} (h : s.data.toList = l) : s = ⟨l.toArray⟩ := by
  rw [← h]
theorem join (s : ByteArray) : fst s ++ snd s = s := by
  have h : (fst s ++ snd s).data.toList = s.data.toList := by
    simp only [ByteArray.data_append, Array.toList_append, fst_list, snd_list, List.take_append_drop]
  have h2 := mk_eq h
  rw [h2]
end Go.Proofs.YtbfkkaafkinpmaaGreatDoor.split
