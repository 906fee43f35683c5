/- Merged: SplitM ArithM UnitM Num ReadNumM AmountM. -/
import Derived.Test.YtangdmjdjiddcaaBase
import Derived.Test.YtangdmjdjiddcaaRows
import Derived.ProofKit
import Derived.OpenShut
import Derived.Lib.ItoaNum
import Derived.Lib.AtoiAllCases
namespace Go.Proofs.Ytangdmjdjiddcaa.split
open Go.ChangeShapes Go.WideShapes Go.ChangeAt Go.RowKit
set_option linter.unusedVariables false

def dig (b : UInt8) : Bool := decide (48 ≤ b.toNat) && decide (b.toNat ≤ 57)
def ld : List UInt8 → Nat
  | [] => 0
  | b :: r => if dig b = true then ld r + 1 else 0
theorem ld_le : ∀ l : List UInt8, ld l ≤ l.length
  | [] => Nat.le_refl _
  | b :: r => by
    have := ld_le r
    unfold ld
    split <;> simp only [List.length_cons] <;> omega
theorem ld_dig : ∀ (l : List UInt8) (k : Nat), k < ld l → dig (l.getD k 0) = true
  | [], k, h => by simp [ld] at h
  | b :: r, k, h => by
    unfold ld at h
    split at h
    · next hb =>
      cases k with
      | zero => simpa using hb
      | succ k => have := ld_dig r k (by omega); simpa using this
    · omega
theorem ld_stop : ∀ (l : List UInt8), ld l < l.length → dig (l.getD (ld l) 0) = false
  | [], h => by simp [ld] at h
  | b :: r, h => by
    unfold ld at h ⊢
    by_cases hb : dig b = true
    · rw [if_pos hb] at h ⊢
      have := ld_stop r (by simp only [List.length_cons] at h; omega)
      simpa using this
    · rw [if_neg hb]; simpa using hb
theorem ld_app : ∀ (l r : List UInt8), (∀ c ∈ l, dig c = true) → ld (l ++ r) = l.length + ld r
  | [], r, _ => by simp
  | b :: l, r, h => by
    have ih := ld_app l r (fun c hc => h c (List.mem_cons_of_mem _ hc))
    rw [List.cons_append, ld, if_pos (h b (List.mem_cons_self ..)), ih, List.length_cons]
    omega
def lead (s : ByteArray) : Nat := ld s.data.toList
theorem dig_at (s : ByteArray) (k : Nat) : dig (s.data.toList.getD k 0) = true ↔ 48 ≤ at_ s k ∧ at_ s k ≤ 57 := by
  unfold dig at_
  simp only [Bool.and_eq_true, decide_eq_true_eq]
  omega
theorem lead_le (s : ByteArray) : lead s ≤ s.size := by
  have h := ld_le s.data.toList
  have e : s.data.toList.length = s.size := by simp
  unfold lead
  omega
theorem lead_dig {s : ByteArray} {k : Nat} (h : k < lead s) : 48 ≤ at_ s k ∧ at_ s k ≤ 57 := (dig_at s k).1 (ld_dig _ _ h)
theorem lead_stop {s : ByteArray} (h : lead s < s.size) : ¬ (48 ≤ at_ s (lead s) ∧ at_ s (lead s) ≤ 57) := fun e => by
  have h1 := ld_stop s.data.toList (by have e : s.data.toList.length = s.size := by simp
                                       unfold lead at h; omega)
  have h2 := (dig_at s (lead s)).2 e
  unfold lead at h2
  rw [h1] at h2
  cases h2
theorem lead_go {s : ByteArray} {k : Nat} (h : k ≤ lead s) (hk : k < s.size) (h1 : 48 ≤ at_ s k) (h2 : at_ s k ≤ 57) : k + 1 ≤ lead s := by
  by_cases e : k = lead s
  · subst e; exact absurd ⟨h1, h2⟩ (lead_stop hk)
  · omega
theorem lead_end {s : ByteArray} {k : Nat} (h : k ≤ lead s) (hk : k = s.size ∨ at_ s k < 48 ∨ 57 < at_ s k) : lead s = k := by
  by_cases e : k < lead s
  · have h1 := lead_dig e
    have h2 := lead_le s
    omega
  · omega
/-- The digits, and the rest. -/
def fst (s : ByteArray) : ByteArray := s.extract 0 (lead s)
def snd (s : ByteArray) : ByteArray := s.extract (lead s) s.size
theorem fst_size (s : ByteArray) : (fst s).size = lead s := by
  have := lead_le s
  unfold fst
  simp
  omega
theorem snd_size (s : ByteArray) : (snd s).size = s.size - lead s := by
  have := lead_le s
  unfold snd
  simp
theorem fst_list (s : ByteArray) : (fst s).data.toList = s.data.toList.take (lead s) := by
  unfold fst
  simp
theorem snd_list (s : ByteArray) : (snd s).data.toList = s.data.toList.drop (lead s) := by
  unfold snd
  simp
  rw [List.take_of_length_le]
  simp
theorem mk_eq {s : ByteArray} {l : List UInt8} (h : s.data.toList = l) : s = ⟨l.toArray⟩ := by
  rw [← h]
theorem join (s : ByteArray) : fst s ++ snd s = s := by
  have h : (fst s ++ snd s).data.toList = s.data.toList := by
    simp only [ByteArray.data_append, Array.toList_append, fst_list, snd_list, List.take_append_drop]
  have h2 := mk_eq h
  rw [h2]
end Go.Proofs.Ytangdmjdjiddcaa.split
namespace Go.Proofs.Ytangdmjdjiddcaa.arith
open Go.ChangeShapes Go.WideShapes Go.ChangeAt Go.RowKit
set_option linter.unusedVariables false

/-- The number of a checked result (0 for none) and whether there is one. -/
def val : Option Int → Int
  | some x => x
  | none => 0
def has : Option Int → Bool
  | some _ => true
  | none => false
def two (o : Option Int) : Value := .tuple #[.int .i64 (val o), .bool (has o)]
theorem two_some (x : Int) : two (some x) = .tuple #[.int .i64 x, .bool true] := rfl
theorem two_none : two none = .tuple #[.int .i64 0, .bool false] := rfl

def addF (a b : Int) : Option Int := if 0 ≤ a ∧ 0 ≤ b ∧ a + b ≤ 9223372036854775807 then some (a + b) else none
def subF (a b : Int) : Option Int := if 0 ≤ b ∧ b ≤ a then some (a - b) else none
def mulF (a b : Int) : Option Int := if 0 ≤ a ∧ 0 ≤ b ∧ a * b ≤ 9223372036854775807 then some (a * b) else none
def cmpF (a b : Int) : Int := if a < b then -1 else if b < a then 1 else 0
def powF (b : Int) : Nat → Option Int
  | 0 => some 1
  | k + 1 => (powF b k).bind fun x => mulF x b
def pow2F (b n : Int) : Option Int := if 0 ≤ b ∧ 0 ≤ n ∧ n ≤ 100 then powF b n.toNat else none
def sumStep (o : Option Int) (x : Int) : Option Int := o.bind fun s => addF s x
def sumF (l : List Int) : Option Int := l.foldl sumStep (some 0)

theorem add_yes {a b : Int} (h0 : 0 ≤ a) (h1 : 0 ≤ b) (h2 : a + b ≤ 9223372036854775807) : addF a b = some (a + b) := by unfold addF; rw [if_pos ⟨h0, h1, h2⟩]
theorem add_no {a b : Int} (h : ¬ (0 ≤ a ∧ 0 ≤ b ∧ a + b ≤ 9223372036854775807)) : addF a b = none := by unfold addF; rw [if_neg h]
theorem add_bd {a b x : Int} (h : addF a b = some x) : 0 ≤ a ∧ 0 ≤ b ∧ x = a + b ∧ x ≤ 9223372036854775807 := by
  unfold addF at h
  split at h
  · injection h with h; rename_i h2; exact ⟨h2.1, h2.2.1, h.symm, h ▸ h2.2.2⟩
  · cases h
theorem sub_yes {a b : Int} (h0 : 0 ≤ b) (h1 : b ≤ a) : subF a b = some (a - b) := by unfold subF; rw [if_pos ⟨h0, h1⟩]
theorem sub_no {a b : Int} (h : ¬ (0 ≤ b ∧ b ≤ a)) : subF a b = none := by unfold subF; rw [if_neg h]
theorem mul_yes {a b : Int} (h0 : 0 ≤ a) (h1 : 0 ≤ b) (h2 : a * b ≤ 9223372036854775807) : mulF a b = some (a * b) := by unfold mulF; rw [if_pos ⟨h0, h1, h2⟩]
theorem mul_no {a b : Int} (h : ¬ (0 ≤ a ∧ 0 ≤ b ∧ a * b ≤ 9223372036854775807)) : mulF a b = none := by unfold mulF; rw [if_neg h]
theorem mul_bd {a b x : Int} (h : mulF a b = some x) : 0 ≤ a ∧ 0 ≤ b ∧ x = a * b ∧ 0 ≤ x ∧ x ≤ 9223372036854775807 := by
  unfold mulF at h
  split at h
  · injection h with h; rename_i h2; exact ⟨h2.1, h2.2.1, h.symm, h ▸ Int.mul_nonneg h2.1 h2.2.1, h ▸ h2.2.2⟩
  · cases h
/-- Room for a product, as the division by b tells it. -/
theorem room {a b : Int} (h1 : 0 < b) : a ≤ 9223372036854775807 / b ↔ a * b ≤ 9223372036854775807 := Int.le_ediv_iff_mul_le h1

theorem pow_zero (b : Int) : powF b 0 = some 1 := rfl
theorem pow_some {b x : Int} {k : Nat} (h : powF b k = some x) : powF b (k + 1) = mulF x b := by show (powF b k).bind _ = _; rw [h]; rfl
theorem pow_none {b : Int} {k : Nat} (h : powF b k = none) : powF b (k + 1) = none := by show (powF b k).bind _ = _; rw [h]; rfl
theorem pow_dead {b : Int} {k : Nat} (h : powF b k = none) : ∀ n, k ≤ n → powF b n = none := by
  intro n hn
  induction n with
  | zero => obtain rfl : k = 0 := by omega
            exact h
  | succ n ih =>
    by_cases e : k = n + 1
    · subst e; exact h
    · exact pow_none (ih (by omega))
theorem pow_bd {b x : Int} {k : Nat} (h : powF b k = some x) : 0 ≤ x ∧ x ≤ 9223372036854775807 := by
  cases k with
  | zero => injection h with h; omega
  | succ k =>
    cases hp : powF b k with
    | none => rw [pow_none hp] at h; cases h
    | some y => rw [pow_some hp] at h; exact (mul_bd h).2.2.2
theorem pow2_yes {b : Int} {n : Nat} (h0 : 0 ≤ b) (h1 : n ≤ 100) : pow2F b n = powF b n := by unfold pow2F; rw [if_pos ⟨h0, by omega, by omega⟩]; rfl
theorem pow2_no {b n : Int} (h : ¬ (0 ≤ b ∧ 0 ≤ n ∧ n ≤ 100)) : pow2F b n = none := by unfold pow2F; rw [if_neg h]

theorem sum_zero (l : List Int) : sumF (l.take 0) = some 0 := by simp [sumF]
theorem sum_take {l : List Int} {k : Nat} (hk : k < l.length) : sumF (l.take (k + 1)) = (sumF (l.take k)).bind fun s => addF s (l.getD k 0) := by
  rw [List.take_succ_eq_append_getElem hk]
  unfold sumF
  rw [List.foldl_append, List.getD_eq_getElem?_getD, List.getElem?_eq_getElem hk]
  rfl
theorem sum_go {l : List Int} {k : Nat} {s : Int} (hk : k < l.length) (h : sumF (l.take k) = some s) : sumF (l.take (k + 1)) = addF s (l.getD k 0) := by rw [sum_take hk, h]; rfl
theorem sum_dead {l : List Int} {k : Nat} (h : sumF (l.take k) = none) : sumF l = none := by
  have e : sumF l = (l.drop k).foldl sumStep (sumF (l.take k)) := by
    unfold sumF
    rw [← List.foldl_append, List.take_append_drop]
  rw [e, h]
  clear e h
  induction l.drop k with
  | nil => rfl
  | cons a r ih => exact ih
theorem sum_bd : ∀ (k : Nat) {l : List Int} {s : Int}, k ≤ l.length → sumF (l.take k) = some s → 0 ≤ s ∧ s ≤ 9223372036854775807
  | 0, l, s, _, h => by rw [sum_zero] at h; injection h with h; omega
  | k + 1, l, s, hk, h => by
    cases hp : sumF (l.take k) with
    | none => rw [sum_take (by omega), hp] at h; cases h
    | some y =>
      rw [sum_go (by omega) hp] at h
      have := sum_bd k (by omega) hp
      have := add_bd h
      omega

end Go.Proofs.Ytangdmjdjiddcaa.arith
namespace Go.Proofs.Ytangdmjdjiddcaa.unit
open Go.ChangeShapes Go.WideShapes Go.ChangeAt Go.RowKit
set_option linter.unusedVariables false

def names : List (List UInt8) := [[], [109], [107], [77], [71], [84], [75, 105], [77, 105], [71, 105], [84, 105]]
def vals : List Int := [1000, 1, 1000000, 1000000000, 1000000000000, 1000000000000000, 1024000, 1048576000, 1073741824000, 1099511627776000]
def bytes (l : List UInt8) : ByteArray := ⟨l.toArray⟩
def texts : List ByteArray := names.map bytes
def find : List (List UInt8) → List Int → List UInt8 → Option Int
  | n :: ns, v :: vs, l => if n = l then some v else find ns vs l
  | _, _, _ => none
def unitL (l : List UInt8) : Option Int := find names vals l
def unitF (s : ByteArray) : Option Int := unitL s.data.toList
theorem find_none : ∀ (ns : List (List UInt8)) (vs : List Int) (l : List UInt8), (∀ n ∈ ns, n ≠ l) → find ns vs l = none
  | [], _, _, _ => by simp [find]
  | _ :: _, [], _, _ => by simp [find]
  | n :: ns, v :: vs, l, h => by
    rw [find, if_neg (h n (List.mem_cons_self ..))]
    exact find_none ns vs l (fun m hm => h m (List.mem_cons_of_mem _ hm))
theorem find_mem : ∀ (ns : List (List UInt8)) (vs : List Int) (l : List UInt8) (x : Int), find ns vs l = some x → x ∈ vs
  | [], _, _, _, h => by simp [find] at h
  | _ :: _, [], _, _, h => by simp [find] at h
  | n :: ns, v :: vs, l, x, h => by
    rw [find] at h
    split at h
    · injection h with h; subst h; exact List.mem_cons_self ..
    · exact List.mem_cons_of_mem _ (find_mem ns vs l x h)
theorem unit_bd {s : ByteArray} {x : Int} (h : unitF s = some x) : 0 < x ∧ x ≤ 1099511627776000 := by
  have := find_mem _ _ _ _ h
  simp only [vals, List.mem_cons, List.not_mem_nil, or_false] at this
  omega
theorem hit : ∀ i, i < 10 → unitL (names.getD i []) = some (vals.getD i 0) := by decide
theorem miss {l : List UInt8} (h : ∀ j, j < 10 → names.getD j [] ≠ l) : unitL l = none := by
  refine find_none _ _ _ fun n hn => ?_
  obtain ⟨j, hj, rfl⟩ := List.mem_iff_getElem.1 hn
  have := h j hj
  rwa [List.getD_eq_getElem?_getD, List.getElem?_eq_getElem hj] at this
theorem or_miss (l : List UInt8) : (∃ j, j < 10 ∧ names.getD j [] = l) ∨ (∀ j, j < 10 → names.getD j [] ≠ l) := by
  by_cases h : ∃ j, j < 10 ∧ names.getD j [] = l
  · exact .inl h
  · exact .inr fun j hj e => h ⟨j, hj, e⟩
theorem texts_get (j : Nat) (h : j < 10) : (scells texts)[j]? = some (.string (bytes (names.getD j []))) := by
  have hj : j < names.length := h
  simp [scells, texts, List.getElem?_map, List.getElem?_eq_getElem hj, List.getD]
theorem icells_vals (j : Nat) (h : j < 10) : (icells vals)[j]? = some (.int .i64 (vals.getD j 0)) := icells_get vals j h
theorem bytes_eq {s : ByteArray} {l : List UInt8} (h : bytes l = s) : l = s.data.toList := by rw [← h]; rfl
end Go.Proofs.Ytangdmjdjiddcaa.unit
namespace Go.Proofs.Ytangdmjdjiddcaa.num
open Go

def isD (c : UInt8) : Prop := 48 ≤ c.toNat ∧ c.toNat ≤ 57
def stepD (n : Nat) (c : UInt8) : Nat := 10 * n + (c.toNat - 48)
def foldD (acc : Nat) (l : List UInt8) : Nat := l.foldl stepD acc
theorem foldD_nil (acc : Nat) : foldD acc [] = acc := by simp only [foldD, List.foldl_nil]
theorem foldD_cons (acc : Nat) (c : UInt8) (r : List UInt8) : foldD acc (c :: r) = foldD (10 * acc + (c.toNat - 48)) r := by simp only [foldD, List.foldl_cons, stepD]
theorem foldD_snoc (l : List UInt8) (c : UInt8) (acc : Nat) : foldD acc (l ++ [c]) = 10 * foldD acc l + (c.toNat - 48) := by simp only [foldD, List.foldl_append, List.foldl_cons, List.foldl_nil, stepD]
theorem foldD_ge (l : List UInt8) : ∀ acc : Nat, acc ≤ foldD acc l := by
  induction l with
  | nil => intro acc; rw [foldD_nil]; exact Nat.le_refl _
  | cons c l ih =>
    intro acc
    rw [foldD_cons]
    exact Nat.le_trans (by omega) (ih _)
theorem foldD_lt (l : List UInt8) : ∀ (acc k : Nat), (∀ c ∈ l, isD c) → acc < 10 ^ k → foldD acc l < 10 ^ (k + l.length) := by
  induction l with
  | nil => intro acc k _ h; rw [foldD_nil]; exact h
  | cons c l ih =>
    intro acc k hd h
    have hc := hd c (by simp)
    unfold isD at hc
    have h2 : 10 * acc + (c.toNat - 48) < 10 ^ (k + 1) := by
      rw [Nat.pow_succ]
      generalize 10 ^ k = m at h
      omega
    rw [foldD_cons]
    have := ih _ (k + 1) (fun x hx => hd x (by simp [hx])) h2
    rw [List.length_cons, show k + (l.length + 1) = k + 1 + l.length by omega]
    exact this

theorem dec_isD (u : Nat) : ∀ c ∈ Lib.decDigits u, isD c := by
  induction u using Nat.strongRecOn with
  | _ u ih =>
    intro c hc
    rw [Lib.decDigits] at hc
    by_cases h : u < 10
    · rw [dif_pos h] at hc
      simp only [List.mem_singleton] at hc
      subst hc
      unfold isD
      simp
      omega
    · rw [dif_neg h] at hc
      rcases List.mem_append.1 hc with h1 | h1
      · exact ih (u / 10) (by omega) c h1
      · simp only [List.mem_singleton] at h1
        subst h1
        unfold isD
        simp
        omega
theorem dec_fold (u : Nat) : foldD 0 (Lib.decDigits u) = u := by
  induction u using Nat.strongRecOn with
  | _ u ih =>
    rw [Lib.decDigits]
    by_cases h : u < 10
    · rw [dif_pos h, foldD_cons, foldD_nil]; simp; omega
    · rw [dif_neg h, foldD_snoc, ih (u / 10) (by omega)]
      simp
      omega
theorem dec_ne (u : Nat) : Lib.decDigits u ≠ [] := by
  rw [Lib.decDigits]
  by_cases h : u < 10
  · rw [dif_pos h]; simp
  · rw [dif_neg h]; simp
theorem dec_len : ∀ (k u : Nat), u < 10 ^ (k + 1) → (Lib.decDigits u).length ≤ k + 1
  | 0, u, h => by rw [Lib.decDigits, dif_pos (by simpa using h)]; simp
  | k + 1, u, h => by
    rw [Lib.decDigits]
    by_cases h1 : u < 10
    · rw [dif_pos h1]; simp
    · rw [dif_neg h1]
      have := dec_len k (u / 10) (by rw [Nat.pow_succ] at h; omega)
      simp; omega

theorem parse_fold (l : List UInt8) : ∀ acc : Nat, (∀ c ∈ l, isD c) → foldD acc l < 9223372036854775808 → Lib.parseUint10 acc l = .ok (foldD acc l) := by
  induction l with
  | nil => intro acc _ _; rw [foldD_nil, Lib.parseUint10]
  | cons c l ih =>
    intro acc hd hb
    have hc := hd c (by simp)
    unfold isD at hc
    rw [foldD_cons] at hb ⊢
    have hge := foldD_ge l (10 * acc + (c.toNat - 48))
    have hr := ih (10 * acc + (c.toNat - 48)) (fun x hx => hd x (by simp [hx])) hb
    have h2 : 10 * acc + (c.toNat - 48) < 9223372036854775808 := Nat.lt_of_le_of_lt hge hb
    rw [Lib.parseUint10, if_pos hc, if_neg (by omega), if_neg (by omega), show acc * 10 + (c.toNat - 48) = 10 * acc + (c.toNat - 48) by omega]
    exact hr

theorem itoa_nat (u : Nat) : Lib.itoa (u : Int) = Lib.decDigits u := by unfold Lib.itoa; rw [if_neg (by omega)]; simp
theorem atoi_dec (u : Nat) (h : u < 9223372036854775808) : Lib.atoiAll (Lib.decDigits u) = .ok (u : Int) := by
  have hne := dec_ne u
  have hd := dec_isD u
  have hf := dec_fold u
  have hp := parse_fold (Lib.decDigits u) 0 hd (by rw [hf]; exact h)
  rw [hf] at hp
  cases hl : Lib.decDigits u with
  | nil => exact absurd hl hne
  | cons c r =>
    rw [hl] at hd hp
    have hc := hd c (by simp)
    unfold isD at hc
    rw [Lib.atoiAll_plain c r (by omega) (by omega)]
    unfold Lib.parseMag
    rw [if_neg (by simp), hp]
    unfold Lib.signless
    simp only
    rw [if_neg (by omega)]
end Go.Proofs.Ytangdmjdjiddcaa.num
namespace Go.Proofs.Ytangdmjdjiddcaa.readnum
open Go.ChangeShapes Go.WideShapes Go.ChangeAt Go.RowKit
set_option linter.unusedVariables false

/-- What the first k bytes spell. -/
def v (s : ByteArray) (k : Nat) : Nat := num.foldD 0 (s.data.toList.take k)
def Num (m : Nat) (s : ByteArray) (n : Nat) : Prop := n ≤ m ∧ s.data.toList = Lib.decDigits n
theorem num_v {m : Nat} {s : ByteArray} {n : Nat} (h : Num m s n) : v s s.size = n := by
  unfold v
  rw [List.take_of_length_le (by simp), h.2, num.dec_fold]
theorem num_len {m : Nat} {s : ByteArray} {n : Nat} (h : Num m s n) (k : Nat) (hk : m < 10 ^ (k + 1)) : s.size ≤ k + 1 := by
  have h1 := num.dec_len k n (Nat.lt_of_le_of_lt h.1 hk)
  rw [← h.2] at h1
  simpa using h1
theorem num_dig {m : Nat} {s : ByteArray} {n : Nat} (h : Num m s n) (k : Nat) (hk : k < s.size) : 48 ≤ at_ s k ∧ at_ s k ≤ 57 := by
  have h2 : k < s.data.toList.length := by simpa using hk
  have h1 := num.dec_isD n (s.data.toList[k]) (by rw [← h.2]; exact List.getElem_mem h2)
  unfold num.isD at h1
  unfold at_
  rw [List.getD_eq_getElem?_getD, List.getElem?_eq_getElem h2]
  simp only [Option.getD_some]
  omega
open Classical in
noncomputable def flag (m : Nat) (s : ByteArray) : Bool := decide (∃ n, Num m s n)
open Classical in
noncomputable def res (m : Nat) (s : ByteArray) : Int := if ∃ n, Num m s n then (v s s.size : Int) else 0
theorem no_flag {m : Nat} {s : ByteArray} (h : ∀ n, ¬ Num m s n) : flag m s = false := by
  unfold flag
  have h2 : ¬ ∃ n, Num m s n := fun ⟨n, hn⟩ => h n hn
  simp [h2]
theorem no_res {m : Nat} {s : ByteArray} (h : ∀ n, ¬ Num m s n) : res m s = 0 := by
  unfold res; rw [if_neg (fun ⟨n, hn⟩ => h n hn)]
theorem yes_flag {m : Nat} {s : ByteArray} {n : Nat} (h : Num m s n) : flag m s = true := by
  unfold flag
  have h2 : ∃ n, Num m s n := ⟨n, h⟩
  simp [h2]
theorem yes_res {m : Nat} {s : ByteArray} {n : Nat} (h : Num m s n) : res m s = (n : Int) := by
  unfold res; rw [if_pos ⟨n, h⟩, num_v h]

theorem v_zero (s : ByteArray) : v s 0 = 0 := by unfold v; rw [List.take_zero, num.foldD_nil]
theorem v_step (s : ByteArray) (k : Nat) (hk : k < s.size) (h : 48 ≤ at_ s k) : (v s (k + 1) : Int) = 10 * (v s k : Int) + at_ s k - 48 := by
  have e := at_eq s k hk
  unfold v
  rw [take_snoc s k hk, num.foldD_snoc]
  omega
theorem v_mono (s : ByteArray) (k : Nat) : v s k ≤ v s s.size := by
  have e : v s s.size = num.foldD (v s k) (s.data.toList.drop k) := by
    unfold v
    rw [List.take_of_length_le (by simp)]
    unfold num.foldD
    rw [← List.foldl_append, List.take_append_drop]
  rw [e]
  exact num.foldD_ge _ _
def digs (s : ByteArray) (k : Nat) : Prop := ∀ j, j < k → 48 ≤ at_ s j ∧ at_ s j ≤ 57
theorem v_lt (s : ByteArray) : ∀ k, k ≤ s.size → digs s k → v s k < 10 ^ k
  | 0, _, _ => by rw [v_zero]; exact Nat.one_pos
  | k + 1, hk, hd => by
    have ih := v_lt s k (by omega) (fun j hj => hd j (by omega))
    have h1 := hd k (by omega)
    have h2 := v_step s k (by omega) h1.1
    rw [Nat.pow_succ]
    generalize 10 ^ k = m at ih
    omega
theorem v_bd (s : ByteArray) (k : Nat) (hk : k ≤ s.size) (hd : digs s k) (h10 : k ≤ 10) : v s k < 10000000000 :=
  Nat.lt_of_lt_of_le (v_lt s k hk hd) (Nat.le_trans (Nat.pow_le_pow_right (by omega) h10) (by decide))
end Go.Proofs.Ytangdmjdjiddcaa.readnum
namespace Go.Proofs.Ytangdmjdjiddcaa.amount
open Go.ChangeShapes Go.WideShapes Go.ChangeAt Go.RowKit
set_option linter.unusedVariables false

noncomputable def readG (f r : ByteArray) : Int × Int :=
  match unit.unitF r with
  | none => (0, 1)
  | some u => if f.size = 0 ∨ (1 < f.size ∧ at_ f 0 = 48) then (0, 1)
    else if readnum.flag 9223372036854775807 f = true then
      match arith.mulF (readnum.res 9223372036854775807 f) u with
      | some x => (x, 0)
      | none => (0, 2)
    else (0, 2)
noncomputable def readF (s : ByteArray) : Int × Int := if 40 < s.size then (0, 1) else readG (split.fst s) (split.snd s)
theorem g_unit {f r : ByteArray} (h : unit.unitF r = none) : readG f r = (0, 1) := by unfold readG; rw [h]
theorem g_form {f r : ByteArray} (h : f.size = 0 ∨ (1 < f.size ∧ at_ f 0 = 48)) : readG f r = (0, 1) := by
  unfold readG
  split
  · rfl
  · rw [if_pos h]
theorem g_far {f r : ByteArray} {u : Int} (hu : unit.unitF r = some u) (h : ¬ (f.size = 0 ∨ (1 < f.size ∧ at_ f 0 = 48))) (hf : readnum.flag 9223372036854775807 f = false) : readG f r = (0, 2) := by
  unfold readG
  rw [hu]
  simp only
  rw [if_neg h, hf]
  rfl
theorem g_much {f r : ByteArray} {u : Int} (hu : unit.unitF r = some u) (h : ¬ (f.size = 0 ∨ (1 < f.size ∧ at_ f 0 = 48))) (hf : readnum.flag 9223372036854775807 f = true) (hm : arith.mulF (readnum.res 9223372036854775807 f) u = none) : readG f r = (0, 2) := by
  unfold readG
  rw [hu]
  simp only
  rw [if_neg h, if_pos hf, hm]
theorem g_yes {f r : ByteArray} {u x : Int} (hu : unit.unitF r = some u) (h : ¬ (f.size = 0 ∨ (1 < f.size ∧ at_ f 0 = 48))) (hf : readnum.flag 9223372036854775807 f = true) (hm : arith.mulF (readnum.res 9223372036854775807 f) u = some x) : readG f r = (x, 0) := by
  unfold readG
  rw [hu]
  simp only
  rw [if_neg h, if_pos hf, hm]
theorem read_long {s : ByteArray} (h : 40 < s.size) : readF s = (0, 1) := by unfold readF; rw [if_pos h]
theorem read_short {s : ByteArray} (h : ¬ 40 < s.size) : readF s = readG (split.fst s) (split.snd s) := by unfold readF; rw [if_neg h]
theorem readG_bd (f r : ByteArray) : 0 ≤ (readG f r).1 ∧ (readG f r).1 ≤ 9223372036854775807 ∧ ((readG f r).2 = 0 ∨ (readG f r).2 = 1 ∨ (readG f r).2 = 2) := by
  unfold readG
  split
  · exact ⟨by decide, by decide, by decide⟩
  · split
    · exact ⟨by decide, by decide, by decide⟩
    · split
      · split
        · next h =>
          have := arith.mul_bd h
          exact ⟨by omega, by omega, .inl rfl⟩
        · exact ⟨by decide, by decide, by decide⟩
      · exact ⟨by decide, by decide, by decide⟩
theorem read_bd (s : ByteArray) : 0 ≤ (readF s).1 ∧ (readF s).1 ≤ 9223372036854775807 ∧ ((readF s).2 = 0 ∨ (readF s).2 = 1 ∨ (readF s).2 = 2) := by
  unfold readF
  split
  · exact ⟨by decide, by decide, by decide⟩
  · exact readG_bd _ _
/-- The bounds of what the digits spell. -/
theorem res_bd (f : ByteArray) : 0 ≤ readnum.res 9223372036854775807 f ∧ readnum.res 9223372036854775807 f ≤ 9223372036854775807 := by
  by_cases h : ∃ n, readnum.Num 9223372036854775807 f n
  · obtain ⟨n, hn⟩ := h
    rw [readnum.yes_res hn]
    have := hn.1
    omega
  · rw [readnum.no_res (fun n hn => h ⟨n, hn⟩)]
    omega

/-- How often a number is divided by 1024, at most f times more of four. -/
def dv : Nat → Nat → Nat × Nat
  | 0, u => (u, 4)
  | f + 1, u => if 0 < u ∧ u % 1024 = 0 then dv f (u / 1024) else (u, 3 - f)
theorem dv_go {f u : Nat} (h0 : 0 < u) (h1 : u % 1024 = 0) : dv (f + 1) u = dv f (u / 1024) := by rw [dv, if_pos ⟨h0, h1⟩]
theorem dv_no {f u : Nat} (h : ¬ (0 < u ∧ u % 1024 = 0)) : dv (f + 1) u = (u, 3 - f) := by rw [dv, if_neg h]
theorem dv_next {k u : Nat} (hk : k < 4) (h0 : 0 < u) (h1 : u % 1024 = 0) : dv (4 - k) u = dv (4 - (k + 1)) (u / 1024) := by
  have e : 4 - k = 4 - (k + 1) + 1 := by omega
  rw [e, dv_go h0 h1]
theorem dv_end {k u : Nat} (hk : k ≤ 4) (h : k = 4 ∨ ¬ (0 < u ∧ u % 1024 = 0)) : dv (4 - k) u = (u, k) := by
  by_cases e4 : k = 4
  · subst e4; rfl
  · have e : 4 - k = 3 - k + 1 := by omega
    rw [e, dv_no (h.resolve_left e4)]
    have e3 : 3 - (3 - k) = k := by omega
    rw [e3]
theorem dv_val : ∀ (f u : Nat), f ≤ 4 → ∃ k, k ≤ f ∧ (dv f u).2 = 4 - f + k ∧ (dv f u).1 * 1024 ^ k = u
  | 0, u, _ => ⟨0, Nat.le_refl _, rfl, by simp [dv]⟩
  | f + 1, u, h => by
    by_cases hc : 0 < u ∧ u % 1024 = 0
    · rw [dv, if_pos hc]
      obtain ⟨k, h1, h2, h3⟩ := dv_val f (u / 1024) (by omega)
      refine ⟨k + 1, by omega, by omega, ?_⟩
      rw [Nat.pow_succ, ← Nat.mul_assoc, h3]
      omega
    · rw [dv, if_neg hc]
      exact ⟨0, by omega, by show 3 - f = _; omega, by simp⟩
theorem dv_le (f u : Nat) (h : f ≤ 4) : (dv f u).1 ≤ u ∧ (dv f u).2 ≤ 4 := by
  obtain ⟨k, h1, h2, h3⟩ := dv_val f u h
  refine ⟨?_, by omega⟩
  have : 1 ≤ 1024 ^ k := Nat.one_le_pow _ _ (by decide)
  calc (dv f u).1 = (dv f u).1 * 1 := by omega
    _ ≤ (dv f u).1 * 1024 ^ k := Nat.mul_le_mul_left _ this
    _ = u := h3
def sufs : List (List UInt8) := [[], [75, 105], [77, 105], [71, 105], [84, 105]]
def suf (k : Nat) : List UInt8 := sufs.getD k []
theorem suf_len : ∀ k, k ≤ 4 → (suf k).length ≤ 2 := by decide
theorem itoa_len (u : Nat) (h : u ≤ 9223372036854775807) : (Lib.itoa (u : Int)).length ≤ 19 := by
  rw [num.itoa_nat]
  exact num.dec_len 18 u (by omega)
theorem room_suf (u k : Nat) (h : u ≤ 9223372036854775807) (hk : k ≤ 4) : ¬ 9223372036854775807 < (Lib.itoa (u : Int)).length + (suf k).length := by
  have := itoa_len u h
  have := suf_len k hk
  omega
theorem room_one (n : Int) (h0 : 0 ≤ n) (h : n ≤ 9223372036854775807) : ¬ 9223372036854775807 < (Lib.itoa n).length + 1 := by
  obtain ⟨u, rfl⟩ := Int.eq_ofNat_of_zero_le h0
  have := itoa_len u (by omega)
  omega
def textL (n : Int) : List UInt8 := if n < 0 then [] else if n % 1000 ≠ 0 then Lib.itoa n ++ [109] else Lib.itoa ((dv 4 (n / 1000).toNat).1 : Int) ++ suf (dv 4 (n / 1000).toNat).2
def textF (n : Int) : ByteArray := ⟨(textL n).toArray⟩
theorem text_neg {n : Int} (h : n < 0) : textF n = ⟨#[]⟩ := by unfold textF textL; rw [if_pos h]
theorem text_odd {n : Int} (h : ¬ n < 0) (h1 : n % 1000 ≠ 0) : textF n = ⟨(Lib.itoa n).toArray⟩ ++ ⟨#[109]⟩ := by
  unfold textF textL
  rw [if_neg h, if_pos h1]
  exact (bytes_append _ [109]).symm
theorem text_even {n : Int} (h : ¬ n < 0) (h1 : n % 1000 = 0) : textF n = ⟨(Lib.itoa ((dv 4 (n / 1000).toNat).1 : Int)).toArray⟩ ++ ⟨(suf (dv 4 (n / 1000).toNat).2).toArray⟩ := by
  unfold textF textL
  rw [if_neg h, if_neg (fun e => e h1)]
  exact (bytes_append _ _).symm

noncomputable def normF (s : ByteArray) : ByteArray × Int := if (readF s).2 = 0 then (textF (readF s).1, 0) else (⟨#[]⟩, (readF s).2)
noncomputable def ordF (a b : ByteArray) : Int × Bool := if (readF a).2 = 0 ∧ (readF b).2 = 0 then (arith.cmpF (readF a).1 (readF b).1, true) else (0, false)
end Go.Proofs.Ytangdmjdjiddcaa.amount
