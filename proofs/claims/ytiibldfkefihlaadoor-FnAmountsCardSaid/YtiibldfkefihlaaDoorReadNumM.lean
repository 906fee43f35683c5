/- What a reader of numerals returns: the number at most m whose numeral the text is, if there is one. -/
import Derived.Test.YtiibldfkefihlaaDoorBase
import Derived.Test.YtiibldfkefihlaaDoorRows
import Derived.Test.YtiibldfkefihlaaDoorNum
import Derived.ProofKit
import Derived.OpenShut
namespace Go.Proofs.YtiibldfkefihlaaDoor.readnum
open Go.ChangeShapes Go.WideShapes Go.ChangeAt Go.RowKit
set_option linter.unusedVariables false

/-- What the first k bytes spell. -/
def v (s : ByteArray) (k : Nat) : Nat := num.foldD 0 (s.data.toList.take k)
def Num (m : Nat) (s : ByteArray) (n : Nat) : Prop := n ≤ m ∧ s.data.toList = Lib.decDigits n
theorem num_v {m : Nat} {s : ByteArray} {n : Nat} (h : Num m s n) : v s s.size = n := by
  unfold v
  rw [List.take_of_length_le (by simp), h.2, num.dec_fold]
theorem num_len {m : Nat} {s : ByteArray} {n : Nat} (h : Num m s n) (k : Nat) (hk : m < 10 ^ (k + 1)) : s.size ≤ k + 1 := by
  have h1 := num.dec_len k n (Nat.lt_of_le_of_lt h.1 hk)
  rw [← h.2] at h1
  simpa using h1
theorem num_dig {m : Nat} {s : ByteArray} {n : Nat} (h : Num m s n) (k : Nat) (hk : k < s.size) : 48 ≤ at_ s k ∧ at_ s k ≤ 57 := by
  have h2 : k < s.data.toList.length := by simpa using hk
  have h1 := num.dec_isD n (s.data.toList[k]) (by rw [← h.2]; exact List.getElem_mem h2)
  unfold num.isD at h1
  unfold at_
  rw [List.getD_eq_getElem?_getD, List.getElem?_eq_getElem h2]
  simp only [Option.getD_some]
  omega
open Classical in
noncomputable def flag (m : Nat) (s : ByteArray) : Bool := decide (∃ n, Num m s n)
open Classical in
noncomputable def res (m : Nat) (s : ByteArray) : Int := if ∃ n, Num m s n then (v s s.size : Int) else 0
theorem no_flag {m : Nat} {s : ByteArray} (h : ∀ n, ¬ Num m s n) : flag m s = false := by
  unfold flag
  have h2 : ¬ ∃ n, Num m s n := fun ⟨n, hn⟩ => h n hn
  simp [h2]
theorem no_res {m : Nat} {s : ByteArray} (h : ∀ n, ¬ Num m s n) : res m s = 0 := by
  unfold res; rw [if_neg (fun ⟨n, hn⟩ => h n hn)]
theorem yes_flag {m : Nat} {s : ByteArray} {n : Nat} (h : Num m s n) : flag m s = true := by
  unfold flag
  have h2 : ∃ n, Num m s n := ⟨n, h⟩
  simp [h2]
theorem yes_res {m : Nat} {s : ByteArray} {n : Nat} (h : Num m s n) : res m s = (n : Int) := by
  unfold res; rw [if_pos ⟨n, h⟩, num_v h]

theorem v_zero (s : ByteArray) : v s 0 = 0 := by unfold v; rw [List.take_zero, num.foldD_nil]
theorem v_step (s : ByteArray) (k : Nat) (hk : k < s.size) (h : 48 ≤ at_ s k) : (v s (k + 1) : Int) = 10 * (v s k : Int) + at_ s k - 48 := by
  have e := at_eq s k hk
  unfold v
  rw [take_snoc s k hk, num.foldD_snoc]
  omega
theorem v_mono (s : ByteArray) (k : Nat) : v s k ≤ v s s.size := by
  have e : v s s.size = num.foldD (v s k) (s.data.toList.drop k) := by
    unfold v
    rw [List.take_of_length_le (by simp)]
    unfold num.foldD
    rw [← List.foldl_append, List.take_append_drop]
  rw [e]
  exact num.foldD_ge _ _
def digs (s : ByteArray) (k : Nat) : Prop := ∀ j, j < k → 48 ≤ at_ s j ∧ at_ s j ≤ 57
theorem v_lt (s : ByteArray) : ∀ k, k ≤ s.size → digs s k → v s k < 10 ^ k
  | 0, _, _ => by rw [v_zero]; exact Nat.one_pos
  | k + 1, hk, hd => by
    have ih := v_lt s k (by omega) (fun j hj => hd j (by omega))
    have h1 := hd k (by omega)
    have h2 := v_step s k (by omega) h1.1
    rw [Nat.pow_succ]
    generalize 10 ^ k = m at ih
    omega
theorem v_bd (s : ByteArray) (k : Nat) (hk : k ≤ s.size) (hd : digs s k) (h10 : k ≤ 10) : v s k < 10000000000 :=
  Nat.lt_of_lt_of_le (v_lt s k hk hd) (Nat.le_trans (Nat.pow_le_pow_right (by omega) h10) (by decide))
end Go.Proofs.YtiibldfkefihlaaDoor.readnum
