/- Quantities, plain: the leading digits of a text. -/
import Derived.Test.YtiibldfkefihlaaDoorBase
import Derived.Test.YtiibldfkefihlaaDoorRows
import Derived.ProofKit
import Derived.OpenShut
namespace Go.Proofs.YtiibldfkefihlaaDoor.split
open Go.ChangeShapes Go.WideShapes Go.ChangeAt Go.RowKit
set_option linter.unusedVariables false

def dig (b : UInt8) : Bool := decide (48 ≤ b.toNat) && decide (b.toNat ≤ 57)
def ld : List UInt8 → Nat
  | [] => 0
  | b :: r => if dig b = true then ld r + 1 else 0
theorem ld_le : ∀ l : List UInt8, ld l ≤ l.length
  | [] => Nat.le_refl _
  | b :: r => by
    have := ld_le r
    unfold ld
    split <;> simp only [List.length_cons] <;> omega
theorem ld_dig : ∀ (l : List UInt8) (k : Nat), k < ld l → dig (l.getD k 0) = true
  | [], k, h => by simp [ld] at h
  | b :: r, k, h => by
    unfold ld at h
    split at h
    · next hb =>
      cases k with
      | zero => simpa using hb
      | succ k => have := ld_dig r k (by omega); simpa using this
    · omega
theorem ld_stop : ∀ (l : List UInt8), ld l < l.length → dig (l.getD (ld l) 0) = false
  | [], h => by simp [ld] at h
  | b :: r, h => by
    unfold ld at h ⊢
    by_cases hb : dig b = true
    · rw [if_pos hb] at h ⊢
      have := ld_stop r (by simp only [List.length_cons] at h; omega)
      simpa using this
    · rw [if_neg hb]; simpa using hb
theorem ld_app : ∀ (l r : List UInt8), (∀ c ∈ l, dig c = true) → ld (l ++ r) = l.length + ld r
  | [], r, _ => by simp
  | b :: l, r, h => by
    have ih := ld_app l r (fun c hc => h c (List.mem_cons_of_mem _ hc))
    rw [List.cons_append, ld, if_pos (h b (List.mem_cons_self ..)), ih, List.length_cons]
    omega
def lead (s : ByteArray) : Nat := ld s.data.toList
theorem dig_at (s : ByteArray) (k : Nat) : dig (s.data.toList.getD k 0) = true ↔ 48 ≤ at_ s k ∧ at_ s k ≤ 57 := by
  unfold dig at_
  simp only [Bool.and_eq_true, decide_eq_true_eq]
  omega
theorem lead_le (s : ByteArray) : lead s ≤ s.size := by
  have h := ld_le s.data.toList
  have e : s.data.toList.length = s.size := by simp
  unfold lead
  omega
theorem lead_dig {s : ByteArray} {k : Nat} (h : k < lead s) : 48 ≤ at_ s k ∧ at_ s k ≤ 57 := (dig_at s k).1 (ld_dig _ _ h)
theorem lead_stop {s : ByteArray} (h : lead s < s.size) : ¬ (48 ≤ at_ s (lead s) ∧ at_ s (lead s) ≤ 57) := fun e => by
  have h1 := ld_stop s.data.toList (by have e : s.data.toList.length = s.size := by simp
                                       unfold lead at h; omega)
  have h2 := (dig_at s (lead s)).2 e
  unfold lead at h2
  rw [h1] at h2
  cases h2
theorem lead_go {s : ByteArray} {k : Nat} (h : k ≤ lead s) (hk : k < s.size) (h1 : 48 ≤ at_ s k) (h2 : at_ s k ≤ 57) : k + 1 ≤ lead s := by
  by_cases e : k = lead s
  · subst e; exact absurd ⟨h1, h2⟩ (lead_stop hk)
  · omega
theorem lead_end {s : ByteArray} {k : Nat} (h : k ≤ lead s) (hk : k = s.size ∨ at_ s k < 48 ∨ 57 < at_ s k) : lead s = k := by
  by_cases e : k < lead s
  · have h1 := lead_dig e
    have h2 := lead_le s
    omega
  · omega
/-- The digits, and the rest. -/
def fst (s : ByteArray) : ByteArray := s.extract 0 (lead s)
def snd (s : ByteArray) : ByteArray := s.extract (lead s) s.size
theorem fst_size (s : ByteArray) : (fst s).size = lead s := by
  have := lead_le s
  unfold fst
  simp
  omega
theorem snd_size (s : ByteArray) : (snd s).size = s.size - lead s := by
  have := lead_le s
  unfold snd
  simp
theorem fst_list (s : ByteArray) : (fst s).data.toList = s.data.toList.take (lead s) := by
  unfold fst
  simp
theorem snd_list (s : ByteArray) : (snd s).data.toList = s.data.toList.drop (lead s) := by
  unfold snd
  simp
  rw [List.take_of_length_le]
  simp
theorem mk_eq {s : ByteArray} {l : List UInt8} (h : s.data.toList = l) : s = ⟨l.toArray⟩ := by
  rw [← h]
theorem join (s : ByteArray) : fst s ++ snd s = s := by
  have h : (fst s ++ snd s).data.toList = s.data.toList := by
    simp only [ByteArray.data_append, Array.toList_append, fst_list, snd_list, List.take_append_drop]
  have h2 := mk_eq h
  rw [h2]
end Go.Proofs.YtiibldfkefihlaaDoor.split
