/- Lines, plain: leading spaces; where a comment begins; where a key ends. -/
import Derived.Test.YtegpcjkcejijpaaDoorBase
import Derived.Lib.TrimByte
import Derived.Lib.Strings
import Derived.Lib.Index
import Derived.ProofKit
import Derived.OpenShut
namespace Go.Proofs.YtegpcjkcejijpaaDoor.line
open Go.ChangeShapes Go.WideShapes Go.ChangeAt Go.RowKit
set_option linter.unusedVariables false

theorem still {P : Program} {f : FuncId} {args : Array Value} {w : World} {v : Value} (h : Calls P f args w fun e w' => e = .returned v ∧ w = w') : Calls P f args w fun e w' => e = .returned v ∧ Below w.heap.size w w' :=
  h.mono fun e w' h => ⟨h.1, h.2 ▸ Below.refl _ _⟩
theorem len_list (s : ByteArray) : s.data.toList.length = s.size := by simp
theorem mk_eq {s : ByteArray} {l : List UInt8} (h : s.data.toList = l) : s = ⟨l.toArray⟩ := by rw [← h]
theorem byte_at (s : ByteArray) (k : Nat) (b : UInt8) (h : s.data.toList[k]? = some b) : at_ s k = (b.toNat : Int) := by
  unfold at_
  rw [List.getD_eq_getElem?_getD, h]
  rfl
theorem byte_is {b : UInt8} {n : Nat} (h : (b.toNat : Int) = (n : Int)) (hn : n < 256) : b = UInt8.ofNat n := by
  apply UInt8.toNat_inj.1
  rw [UInt8.toNat_ofNat_of_lt' (by simpa using hn)]
  omega
theorem at_ex (s : ByteArray) (a b k : Nat) (hb : b ≤ s.size) (h : a + k < b) : at_ (s.extract a b) k = at_ s (a + k) := by
  unfold at_
  rw [ByteArray.data_extract, Array.toList_extract, List.extract_eq_take_drop, List.getD_eq_getElem?_getD, List.getElem?_take_of_lt (by omega), List.getElem?_drop, List.getD_eq_getElem?_getD]
theorem size_ex (s : ByteArray) (a b : Nat) (hb : b ≤ s.size) : (s.extract a b).size = b - a := by rw [ByteArray.size_extract]; omega

theorem ex0_list (s : ByteArray) (a : Nat) : (s.extract 0 a).data.toList = s.data.toList.take a := by
  rw [ByteArray.data_extract, Array.toList_extract, List.extract_eq_take_drop]
  simp

/-- How many spaces a line begins with. -/
def isp : List UInt8 → Nat
  | [] => 0
  | b :: r => if b = 32 then isp r + 1 else 0
theorem isp_le : ∀ l : List UInt8, isp l ≤ l.length
  | [] => Nat.le_refl _
  | b :: r => by
    have := isp_le r
    unfold isp
    split <;> simp only [List.length_cons] <;> omega
theorem isp_is : ∀ (l : List UInt8) (k : Nat), k < isp l → l.getD k 0 = 32
  | [], k, h => by simp [isp] at h
  | b :: r, k, h => by
    unfold isp at h
    split at h
    · next hb =>
      cases k with
      | zero => simpa using hb
      | succ k => have := isp_is r k (by omega); simpa using this
    · omega
theorem isp_stop : ∀ (l : List UInt8), isp l < l.length → l.getD (isp l) 0 ≠ 32
  | [], h => by simp [isp] at h
  | b :: r, h => by
    unfold isp at h ⊢
    by_cases hb : b = 32
    · rw [if_pos hb] at h ⊢
      have := isp_stop r (by simp only [List.length_cons] at h; omega)
      simpa using this
    · rw [if_neg hb]; simpa using hb
theorem trim_isp : ∀ l : List UInt8, Lib.trimLeftB l 32 = l.drop (isp l)
  | [] => rfl
  | b :: r => by
    have ih := trim_isp r
    unfold Lib.trimLeftB at ih ⊢
    rw [List.dropWhile_cons]
    unfold isp
    by_cases hb : b = 32
    · rw [if_pos (by simpa using hb), if_pos hb, ih, List.drop_succ_cons]
    · rw [if_neg (by simpa using hb), if_neg hb]; rfl
def ind (s : ByteArray) : Nat := isp s.data.toList
theorem ind_le (s : ByteArray) : ind s ≤ s.size := by
  have := isp_le s.data.toList
  rw [len_list] at this
  exact this
theorem is32 (b : UInt8) : b = 32 ↔ ((b.toNat : Int) = 32) := by
  constructor
  · rintro rfl; rfl
  · intro h
    have := byte_is (n := 32) h (by omega)
    exact this
theorem ind_is {s : ByteArray} {k : Nat} (h : k < ind s) : at_ s k = 32 := (is32 _).1 (isp_is _ _ h)
theorem ind_stop {s : ByteArray} (h : ind s < s.size) : at_ s (ind s) ≠ 32 := fun e => isp_stop s.data.toList (by rw [len_list]; exact h) ((is32 _).2 e)
theorem ind_go {s : ByteArray} {k : Nat} (h : k ≤ ind s) (hk : k < s.size) (h1 : at_ s k = 32) : k + 1 ≤ ind s := by
  by_cases e : k = ind s
  · subst e; exact absurd h1 (ind_stop hk)
  · omega
theorem ind_end {s : ByteArray} {k : Nat} (h : k ≤ ind s) (hk : s.size ≤ k ∨ at_ s k ≠ 32) : ind s = k := by
  by_cases e : k < ind s
  · have h1 := ind_is e
    have h2 := ind_le s
    rcases hk with hk | hk
    · omega
    · exact absurd h1 hk
  · omega
/-- The line without its leading spaces. -/
def trimL (s : ByteArray) : ByteArray := s.extract (ind s) s.size
theorem trimL_list (s : ByteArray) : (trimL s).data.toList = s.data.toList.drop (ind s) := by
  unfold trimL
  rw [ByteArray.data_extract, Array.toList_extract, List.extract_eq_take_drop]
  apply List.take_of_length_le
  simp
theorem trimL_is (s : ByteArray) : trimL s = ⟨(Lib.trimLeftB s.data.toList 32).toArray⟩ := by
  refine mk_eq ?_
  rw [trimL_list, trim_isp]; rfl
theorem trimL_size (s : ByteArray) : (trimL s).size = s.size - ind s := by unfold trimL; rw [size_ex _ _ _ (Nat.le_refl _)]

/-- The number of bytes, of the first n of s, behind which there are spaces alone. -/
def rt (s : ByteArray) : Nat → Nat
  | 0 => 0
  | n + 1 => if at_ s n = 32 then rt s n else n + 1
theorem rt_le (s : ByteArray) : ∀ n, rt s n ≤ n
  | 0 => Nat.le_refl _
  | n + 1 => by
    have := rt_le s n
    unfold rt
    split <;> omega
theorem rt_go {s : ByteArray} {n : Nat} (h : 0 < n) (h1 : at_ s (n - 1) = 32) : rt s n = rt s (n - 1) := by
  obtain ⟨m, rfl⟩ : ∃ m, n = m + 1 := ⟨n - 1, by omega⟩
  show (if at_ s m = 32 then rt s m else m + 1) = _
  rw [if_pos (by simpa using h1)]
  rfl
theorem rt_end {s : ByteArray} {n : Nat} (h1 : n = 0 ∨ at_ s (n - 1) ≠ 32) : rt s n = n := by
  cases n with
  | zero => rfl
  | succ m =>
    unfold rt
    rw [if_neg]
    rcases h1 with h1 | h1
    · omega
    · simpa using h1
theorem rt_sp (s : ByteArray) : ∀ n j, rt s n ≤ j → j < n → at_ s j = 32
  | 0, j, _, h => by omega
  | n + 1, j, h1, h2 => by
    by_cases hb : at_ s n = 32
    · rw [rt, if_pos hb] at h1
      by_cases e : j = n
      · subst e; exact hb
      · exact rt_sp s n j h1 (by omega)
    · rw [rt, if_neg hb] at h1; omega
theorem rt_last (s : ByteArray) : ∀ n, 0 < rt s n → at_ s (rt s n - 1) ≠ 32
  | 0, h => by simp [rt] at h
  | n + 1, h => by
    by_cases hb : at_ s n = 32
    · rw [rt, if_pos hb] at h ⊢
      exact rt_last s n h
    · rw [rt, if_neg hb]; simpa using hb
theorem trimR_is (s : ByteArray) (c : Nat) (hc : c ≤ s.size) : (⟨(Lib.trimRightB (s.extract 0 c).data.toList 32).toArray⟩ : ByteArray) = s.extract 0 (rt s c) := by
  have hl := rt_le s c
  have hz := size_ex s 0 c hc
  have hat : ∀ (j : Nat) b, (s.extract 0 c).data.toList[j]? = some b → j < c → at_ s j = (b.toNat : Int) := fun j b h hj => by
    have h1 := byte_at _ _ _ h
    rw [at_ex s 0 c j hc (by omega), Nat.zero_add] at h1
    exact h1
  have hlt : ∀ (j : Nat) b, (s.extract 0 c).data.toList[j]? = some b → j < c := fun j b h => by
    have := (List.getElem?_eq_some_iff.1 h).1
    rw [len_list] at this
    omega
  rw [Lib.trimRightB_take (k := rt s c)]
  · refine (mk_eq ?_).symm
    rw [ex0_list, ex0_list]
    rw [List.take_take, Nat.min_eq_left hl]
  · rw [len_list]; omega
  · intro j b h1 h2
    exact (is32 b).2 (by rw [← hat j b h2 (hlt j b h2)]; exact rt_sp s c j h1 (hlt j b h2))
  · intro b h0 h2 e
    have := hat _ b h2 (hlt _ b h2)
    exact rt_last s c h0 (by rw [this]; exact (is32 b).1 e)
end Go.Proofs.YtegpcjkcejijpaaDoor.line
