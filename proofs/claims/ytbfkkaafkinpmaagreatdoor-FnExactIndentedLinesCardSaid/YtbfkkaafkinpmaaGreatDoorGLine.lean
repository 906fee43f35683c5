/- Merged: LineM KeyM ReadQM PlainM BareM. -/
import Derived.Test.YtbfkkaafkinpmaaGreatDoorBase
import Derived.Lib.TrimByte
import Derived.Lib.Strings
import Derived.Lib.Index
import Derived.ProofKit
import Derived.OpenShut
import Derived.Test.YtbfkkaafkinpmaaGreatDoorRuneM
namespace Go.Proofs.YtbfkkaafkinpmaaGreatDoor.line
open Go.ChangeShapes Go.WideShapes Go.ChangeAt Go.RowKit
set_option linter.unusedVariables false

theorem still {P : Program} {f : FuncId} {args : Array Value} {w : World} {v : Value} (h : Calls P f args w fun e w' => e = .returned v ∧ w = w') : Calls P f args w fun e w' => e = .returned v ∧ Below w.heap.size w w' :=
  h.mono fun e w' h => ⟨h.1, h.2 ▸ Below.refl _ _⟩
theorem len_list (s : ByteArray) : s.data.toList.length = s.size := by simp
theorem mk_eq {s : ByteArray} {l : List UInt8} (h : s.data.toList = l) : s = ⟨l.toArray⟩ := by rw [← h]
theorem byte_at (s : ByteArray) (k : Nat) (b : UInt8) (h : s.data.toList[k]? = some b) : at_ s k = (b.toNat : Int) := by
  unfold at_
  rw [List.getD_eq_getElem?_getD, h]
  rfl
theorem byte_is {b : UInt8} {n : Nat} (h : (b.toNat : Int) = (n : Int)) (hn : n < 256) : b = UInt8.ofNat n := by
  apply UInt8.toNat_inj.1
  rw [UInt8.toNat_ofNat_of_lt' (by simpa using hn)]
  omega
theorem at_ex (s : ByteArray) (a b k : Nat) (hb : b ≤ s.size) (h : a + k < b) : at_ (s.extract a b) k = at_ s (a + k) := by
  unfold at_
  rw [ByteArray.data_extract, Array.toList_extract, List.extract_eq_take_drop, List.getD_eq_getElem?_getD, List.getElem?_take_of_lt (by omega), List.getElem?_drop, List.getD_eq_getElem?_getD]
theorem size_ex (s : ByteArray) (a b : Nat) (hb : b ≤ s.size) : (s.extract a b).size = b - a := by rw [ByteArray.size_extract]; omega

theorem ex0_list (s : ByteArray) (a : Nat) : (s.extract 0 a).data.toList = s.data.toList.take a := by
  rw [ByteArray.data_extract, Array.toList_extract, List.extract_eq_take_drop]
  simp

/-- How many spaces a line begins with. -/
def isp : List UInt8 → Nat
  | [] => 0
  | b :: r => if b = 32 then isp r + 1 else 0
theorem isp_le : ∀ l : List UInt8, isp l ≤ l.length
  | [] => Nat.le_refl _
  | b :: r => by
    have := isp_le r
    unfold isp
    split <;> simp only [List.length_cons] <;> omega
theorem isp_is : ∀ (l : List UInt8) (k : Nat), k < isp l → l.getD k 0 = 32
  | [], k, h => by simp [isp] at h
  | b :: r, k, h => by
    unfold isp at h
    split at h
    · next hb =>
      cases k with
      | zero => simpa using hb
      | succ k => have := isp_is r k (by omega); simpa using this
    · omega
theorem isp_stop : ∀ (l : List UInt8), isp l < l.length → l.getD (isp l) 0 ≠ 32
  | [], h => by simp [isp] at h
  | b :: r, h => by
    unfold isp at h ⊢
    by_cases hb : b = 32
    · rw [if_pos hb] at h ⊢
      have := isp_stop r (by simp only [List.length_cons] at h; omega)
      simpa using this
    · rw [if_neg hb]; simpa using hb
theorem trim_isp : ∀ l : List UInt8, Lib.trimLeftB l 32 = l.drop (isp l)
  | [] => rfl
  | b :: r => by
    have ih := trim_isp r
    unfold Lib.trimLeftB at ih ⊢
    rw [List.dropWhile_cons]
    unfold isp
    by_cases hb : b = 32
    · rw [if_pos (by simpa using hb), if_pos hb, ih, List.drop_succ_cons]
    · rw [if_neg (by simpa using hb), if_neg hb]; rfl
def ind (s : ByteArray) : Nat := isp s.data.toList
theorem ind_le (s : ByteArray) : ind s ≤ s.size := by
  have := isp_le s.data.toList
  rw [len_list] at this
  exact this
theorem is32 (b : UInt8) : b = 32 ↔ ((b.toNat : Int) = 32) := by
  constructor
  · rintro rfl; rfl
  · intro h
    have := byte_is (n := 32) h (by omega)
    exact this
theorem ind_is {s : ByteArray} {k : Nat} (h : k < ind s) : at_ s k = 32 := (is32 _).1 (isp_is _ _ h)
theorem ind_stop {s : ByteArray} (h : ind s < s.size) : at_ s (ind s) ≠ 32 := fun e => isp_stop s.data.toList (by rw [len_list]; exact h) ((is32 _).2 e)
theorem ind_go {s : ByteArray} {k : Nat} (h : k ≤ ind s) (hk : k < s.size) (h1 : at_ s k = 32) : k + 1 ≤ ind s := by
  by_cases e : k = ind s
  · subst e; exact absurd h1 (ind_stop hk)
  · omega
theorem ind_end {s : ByteArray} {k : Nat} (h : k ≤ ind s) (hk : s.size ≤ k ∨ at_ s k ≠ 32) : ind s = k := by
  by_cases e : k < ind s
  · have h1 := ind_is e
    have h2 := ind_le s
    rcases hk with hk | hk
    · omega
    · exact absurd h1 hk
  · omega
/-- The line without its leading spaces. -/
def trimL (s : ByteArray) : ByteArray := s.extract (ind s) s.size
theorem trimL_list (s : ByteArray) : (trimL s).data.toList = s.data.toList.drop (ind s) := by
  unfold trimL
  rw [ByteArray.data_extract, Array.toList_extract, List.extract_eq_take_drop]
  apply List.take_of_length_le
  simp
theorem trimL_is (s : ByteArray) : trimL s = ⟨(Lib.trimLeftB s.data.toList 32).toArray⟩ := by
  refine mk_eq ?_
  rw [trimL_list, trim_isp]; rfl
theorem trimL_size (s : ByteArray) : (trimL s).size = s.size - ind s := by unfold trimL; rw [size_ex _ _ _ (Nat.le_refl _)]

/-- The number of bytes, of the first n of s, behind which there are spaces alone. -/
def rt (s : ByteArray) : Nat → Nat
  | 0 => 0
  | n + 1 => if at_ s n = 32 then rt s n else n + 1
theorem rt_le (s : ByteArray) : ∀ n, rt s n ≤ n
  | 0 => Nat.le_refl _
  | n + 1 => by
    have := rt_le s n
    unfold rt
    split <;> omega
theorem rt_go {s : ByteArray} {n : Nat} (h : 0 < n) (h1 : at_ s (n - 1) = 32) : rt s n = rt s (n - 1) := by
  obtain ⟨m, rfl⟩ : ∃ m, n = m + 1 := ⟨n - 1, by omega⟩
  show (if at_ s m = 32 then rt s m else m + 1) = _
  rw [if_pos (by simpa using h1)]
  rfl
theorem rt_end {s : ByteArray} {n : Nat} (h1 : n = 0 ∨ at_ s (n - 1) ≠ 32) : rt s n = n := by
  cases n with
  | zero => rfl
  | succ m =>
    unfold rt
    rw [if_neg]
    rcases h1 with h1 | h1
    · omega
    · simpa using h1
theorem rt_sp (s : ByteArray) : ∀ n j, rt s n ≤ j → j < n → at_ s j = 32
  | 0, j, _, h => by omega
  | n + 1, j, h1, h2 => by
    by_cases hb : at_ s n = 32
    · rw [rt, if_pos hb] at h1
      by_cases e : j = n
      · subst e; exact hb
      · exact rt_sp s n j h1 (by omega)
    · rw [rt, if_neg hb] at h1; omega
theorem rt_last (s : ByteArray) : ∀ n, 0 < rt s n → at_ s (rt s n - 1) ≠ 32
  | 0, h => by simp [rt] at h
  | n + 1, h => by
    by_cases hb : at_ s n = 32
    · rw [rt, if_pos hb] at h ⊢
      exact rt_last s n h
    · rw [rt, if_neg hb]; simpa using hb
theorem trimR_is (s : ByteArray) (c : Nat) (hc : c ≤ s.size) : (⟨(Lib.trimRightB (s.extract 0 c).data.toList 32).toArray⟩ : ByteArray) = s.extract 0 (rt s c) := by
  have hl := rt_le s c
  have hz := size_ex s 0 c hc
  have hat : ∀ (j : Nat) b, (s.extract 0 c).data.toList[j]? = some b → j < c → at_ s j = (b.toNat : Int) := fun j b h hj => by
    have h1 := byte_at _ _ _ h
    rw [at_ex s 0 c j hc (by omega), Nat.zero_add] at h1
    exact h1
  have hlt : ∀ (j : Nat) b, (s.extract 0 c).data.toList[j]? = some b → j < c := fun j b h => by
    have := (List.getElem?_eq_some_iff.1 h).1
    rw [len_list] at this
    omega
  rw [Lib.trimRightB_take (k := rt s c)]
  · refine (mk_eq ?_).symm
    rw [ex0_list, ex0_list]
    rw [List.take_take, Nat.min_eq_left hl]
  · rw [len_list]; omega
  · intro j b h1 h2
    exact (is32 b).2 (by rw [← hat j b h2 (hlt j b h2)]; exact rt_sp s c j h1 (hlt j b h2))
  · intro b h0 h2 e
    have := hat _ b h2 (hlt _ b h2)
    exact rt_last s c h0 (by rw [this]; exact (is32 b).1 e)
end Go.Proofs.YtbfkkaafkinpmaaGreatDoor.line
namespace Go.Proofs.YtbfkkaafkinpmaaGreatDoor.line
open Go.ChangeShapes Go.WideShapes Go.ChangeAt Go.RowKit
set_option linter.unusedVariables false

/-- At byte i a key may end. -/
def ends (s : ByteArray) (i : Nat) : Prop := i < s.size ∧ at_ s i = 58 ∧ (i + 1 = s.size ∨ at_ s (i + 1) = 32)
instance (s : ByteArray) (i : Nat) : Decidable (ends s i) := by unfold ends; exact inferInstance
def keF (s : ByteArray) (i : Nat) : Int :=
  if h : i < s.size then if ends s i then (i : Int) else keF s (i + 1) else -1
termination_by s.size - i
theorem keF_out {s : ByteArray} {i : Nat} (h : s.size ≤ i) : keF s i = -1 := by rw [keF, dif_neg (by omega)]
theorem keF_here {s : ByteArray} {i : Nat} (h : ends s i) : keF s i = (i : Int) := by rw [keF, dif_pos h.1, if_pos h]
theorem keF_on {s : ByteArray} {i : Nat} (h : i < s.size) (h2 : ¬ ends s i) : keF s i = keF s (i + 1) := by rw [keF, dif_pos h, if_neg h2]
/-- Where the key of a line ends; -1: nowhere. -/
def ke (s : ByteArray) : Int := keF s 0
theorem keF_cases (s : ByteArray) : ∀ (k i : Nat), s.size - i ≤ k → (∀ j, j < i → ¬ ends s j) → (∃ n : Nat, keF s i = (n : Int) ∧ i ≤ n ∧ ends s n ∧ ∀ j, j < n → ¬ ends s j) ∨ (keF s i = -1 ∧ ∀ j, ¬ ends s j)
  | 0, i, h, hj => .inr ⟨keF_out (by omega), fun j hj2 => by
      rcases Nat.lt_or_ge j i with h1 | h1
      · exact hj j h1 hj2
      · exact absurd hj2.1 (by omega)⟩
  | k + 1, i, h, hj => by
    by_cases hi : i < s.size
    · by_cases c : ends s i
      · exact .inl ⟨i, keF_here c, Nat.le_refl _, c, hj⟩
      · rw [keF_on hi c]
        rcases keF_cases s k (i + 1) (by omega) (fun j h1 h2 => by
          by_cases e : j = i
          · exact c (e ▸ h2)
          · exact hj j (by omega) h2) with ⟨n, h1, h2, h3⟩ | h1
        · exact .inl ⟨n, h1, by omega, h3⟩
        · exact .inr h1
    · exact .inr ⟨keF_out (by omega), fun j hj2 => by
        rcases Nat.lt_or_ge j i with h1 | h1
        · exact hj j h1 hj2
        · exact absurd hj2.1 (by omega)⟩
theorem ke_cases (s : ByteArray) : (∃ n : Nat, ke s = (n : Int) ∧ ends s n ∧ ∀ j, j < n → ¬ ends s j) ∨ (ke s = -1 ∧ ∀ j, ¬ ends s j) := by
  rcases keF_cases s _ 0 (Nat.le_refl _) (fun j h => by omega) with ⟨n, h1, h2, h3⟩ | h
  · exact .inl ⟨n, h1, h3⟩
  · exact .inr h
theorem ke_yes {s : ByteArray} {n : Nat} (h : ends s n) (h2 : ∀ j, j < n → ¬ ends s j) : ke s = (n : Int) := by
  rcases ke_cases s with ⟨m, h3, h4, h5⟩ | ⟨_, h3⟩
  · have : m = n := by
      rcases Nat.lt_trichotomy m n with h6 | h6 | h6
      · exact absurd h4 (h2 m h6)
      · exact h6
      · exact absurd h (h5 n h6)
    rw [h3, this]
  · exact absurd h (h3 n)
theorem ke_no {s : ByteArray} (h : ∀ j, ¬ ends s j) : ke s = -1 := by
  rcases ke_cases s with ⟨m, h3, h4, h5⟩ | ⟨h3, _⟩
  · exact absurd h4 (h m)
  · exact h3
/-- The first of two bytes that stand side by side. -/
theorem occ_two (s : ByteArray) (i : Nat) (b c : UInt8) : Lib.occAt s.data.toList [b, c] i = true ↔ i + 1 < s.size ∧ at_ s i = (b.toNat : Int) ∧ at_ s (i + 1) = (c.toNat : Int) := by
  unfold Lib.occAt
  rw [List.isPrefixOf_iff_prefix]
  constructor
  · rintro ⟨t, ht⟩
    have h0 : s.data.toList[i]? = some b := by
      have : (s.data.toList.drop i)[0]? = some b := by rw [← ht]; rfl
      simpa [List.getElem?_drop] using this
    have h1 : s.data.toList[i + 1]? = some c := by
      have : (s.data.toList.drop i)[1]? = some c := by rw [← ht]; rfl
      simpa [List.getElem?_drop] using this
    have hl := (List.getElem?_eq_some_iff.1 h1).1
    rw [len_list] at hl
    exact ⟨hl, byte_at _ _ _ h0, byte_at _ _ _ h1⟩
  · rintro ⟨h0, h1, h2⟩
    have g0 : i < s.data.toList.length := by rw [len_list]; omega
    have g1 : i + 1 < s.data.toList.length := by rw [len_list]; omega
    have e0 : s.data.toList[i] = b := by
      have := byte_at s i _ (List.getElem?_eq_getElem g0)
      exact UInt8.toNat_inj.1 (by omega)
    have e1 : s.data.toList[i + 1] = c := by
      have := byte_at s (i + 1) _ (List.getElem?_eq_getElem g1)
      exact UInt8.toNat_inj.1 (by omega)
    refine ⟨s.data.toList.drop (i + 1 + 1), ?_⟩
    rw [List.drop_eq_getElem_cons g0, List.drop_eq_getElem_cons g1, e0, e1]
    rfl
theorem suf_one (s : ByteArray) (b : UInt8) : Lib.hasSuffix s.data.toList [b] = true ↔ 0 < s.size ∧ at_ s (s.size - 1) = (b.toNat : Int) := by
  unfold Lib.hasSuffix
  rw [List.isSuffixOf_iff_suffix]
  constructor
  · rintro ⟨t, ht⟩
    have hl : t.length + 1 = s.size := by rw [← len_list, ← ht]; simp
    have h0 : s.data.toList[s.size - 1]? = some b := by
      rw [← ht, show s.size - 1 = t.length by omega]
      simp
    exact ⟨by omega, byte_at _ _ _ h0⟩
  · rintro ⟨h0, h1⟩
    have g0 : s.size - 1 < s.data.toList.length := by rw [len_list]; omega
    have e0 : s.data.toList[s.size - 1] = b := by
      have := byte_at s (s.size - 1) _ (List.getElem?_eq_getElem g0)
      exact UInt8.toNat_inj.1 (by omega)
    refine ⟨s.data.toList.take (s.size - 1), ?_⟩
    have : s.data.toList.drop (s.size - 1) = [b] := by
      rw [List.drop_eq_getElem_cons g0, e0, List.drop_eq_nil_of_le (by rw [len_list]; omega)]
    rw [← this, List.take_append_drop]
/-- The first colon with a space behind it, or the last byte if it is a colon. -/
theorem ke_index (s : ByteArray) :
    (0 ≤ Lib.index s.data.toList [58, 32] ∧ Lib.index s.data.toList [58, 32] = ke s) ∨
    (Lib.index s.data.toList [58, 32] = -1 ∧ Lib.hasSuffix s.data.toList [58] = true ∧ 0 < s.size ∧ ke s = ((s.size - 1 : Nat) : Int)) ∨
    (Lib.index s.data.toList [58, 32] = -1 ∧ Lib.hasSuffix s.data.toList [58] = false ∧ ke s = -1) := by
  have hocc : ∀ i, Lib.occAt s.data.toList [58, 32] i = true → ends s i := fun i h => by
    obtain ⟨h0, h1, h2⟩ := (occ_two s i 58 32).1 h
    exact ⟨by omega, h1, .inr h2⟩
  have hend : ∀ i, ends s i → Lib.occAt s.data.toList [58, 32] i = true ∨ i + 1 = s.size := fun i ⟨h0, h1, h2⟩ => by
    by_cases e : i + 1 = s.size
    · exact .inr e
    · rcases h2 with h2 | h2
      · exact .inr h2
      · exact .inl ((occ_two s i 58 32).2 ⟨by omega, h1, h2⟩)
  by_cases hx : ∃ i, Lib.occAt s.data.toList [58, 32] i = true
  · rcases ke_cases s with ⟨n, h1, h2, h3⟩ | ⟨_, h1⟩
    · obtain ⟨i, hi⟩ := hx
      have hi2 := (occ_two s i 58 32).1 hi
      have hle : n ≤ i := Nat.le_of_not_lt fun h => h3 i h (hocc i hi)
      have hn : Lib.occAt s.data.toList [58, 32] n = true := by
        rcases hend n h2 with h | h
        · exact h
        · omega
      left
      have e : Lib.index s.data.toList [58, 32] = (n : Int) := Lib.index_first (by rw [len_list]; omega) hn (fun j hj => by
        cases e : Lib.occAt s.data.toList [58, 32] j with
        | false => rfl
        | true => exact absurd (hocc j e) (h3 j hj))
      rw [e, h1]
      exact ⟨by omega, rfl⟩
    · obtain ⟨i, hi⟩ := hx
      exact absurd (hocc i hi) (h1 i)
  · right
    have e : Lib.index s.data.toList [58, 32] = -1 := Lib.index_none (fun j _ => by
      cases e : Lib.occAt s.data.toList [58, 32] j with
      | false => rfl
      | true => exact absurd ⟨j, e⟩ hx)
    by_cases c : Lib.hasSuffix s.data.toList [58] = true
    · left
      obtain ⟨h0, h1⟩ := (suf_one s 58).1 c
      refine ⟨e, c, h0, ke_yes ⟨by omega, h1, .inl (by omega)⟩ (fun j hj h => ?_)⟩
      rcases hend j h with h2 | h2
      · exact hx ⟨j, h2⟩
      · omega
    · right
      refine ⟨e, by simpa using c, ke_no (fun j h => ?_)⟩
      rcases hend j h with h2 | h2
      · exact hx ⟨j, h2⟩
      · refine c ((suf_one s 58).2 ⟨by have := h.1; omega, ?_⟩)
        rw [show s.size - 1 = j by omega]
        exact h.2.1
theorem ends_drop (s : ByteArray) (a i : Nat) (ha : a ≤ s.size) : ends (s.extract a s.size) i ↔ ends s (a + i) := by
  have hz := size_ex s a s.size (Nat.le_refl _)
  have hat : ∀ k, a + k < s.size → at_ (s.extract a s.size) k = at_ s (a + k) := fun k h => at_ex s a s.size k (Nat.le_refl _) h
  unfold ends
  rw [hz]
  by_cases c : a + i < s.size
  · rw [hat i c]
    by_cases c2 : a + i + 1 < s.size
    · have h2 := hat (i + 1) (by omega)
      rw [h2, show a + (i + 1) = a + i + 1 by omega]
      constructor
      · rintro ⟨h0, h1, h3⟩; exact ⟨c, h1, by omega⟩
      · rintro ⟨h0, h1, h3⟩; exact ⟨by omega, h1, by omega⟩
    · constructor
      · rintro ⟨h0, h1, h3⟩; exact ⟨c, h1, .inl (by omega)⟩
      · rintro ⟨h0, h1, h3⟩; exact ⟨by omega, h1, .inl (by omega)⟩
  · constructor
    · rintro ⟨h0, _⟩; omega
    · rintro ⟨h0, _⟩; omega
theorem ke_zero (s : ByteArray) (a : Nat) (ha : a ≤ s.size) : ke (s.extract a s.size) = 0 ↔ ends s a := by
  have h := ends_drop s a 0 ha
  rw [Nat.add_zero] at h
  rw [← h]
  constructor
  · intro e
    rcases ke_cases (s.extract a s.size) with ⟨n, h1, h2, _⟩ | ⟨h1, _⟩
    · have : n = 0 := by omega
      exact this ▸ h2
    · omega
  · intro e
    exact ke_yes (n := 0) e (fun j hj => absurd hj (Nat.not_lt_zero j))
end Go.Proofs.YtbfkkaafkinpmaaGreatDoor.line
namespace Go.Proofs.YtbfkkaafkinpmaaGreatDoor.readq
open Go Go.RowKit
set_option linter.unusedVariables false

/-- The value of a digit of either case; -1. -/
def hexv (x : Int) : Int := if 48 ≤ x ∧ x ≤ 57 then x - 48 else if 97 ≤ x ∧ x ≤ 102 then x - 87 else if 65 ≤ x ∧ x ≤ 70 then x - 55 else -1
theorem hexv_lt (x : Int) : -1 ≤ hexv x ∧ hexv x < 16 := by
  unfold hexv
  split
  · omega
  · split
    · omega
    · split <;> omega
/-- The number of k digits from place p on, where they are digits. -/
def acc (s : ByteArray) (p : Nat) : Nat → Int
  | 0 => 0
  | k + 1 => 16 * acc s p k + hexv (at_ s (p + k))
def digs (s : ByteArray) (p k : Nat) : Prop := ∀ j, j < k → 0 ≤ hexv (at_ s (p + j))
instance (s : ByteArray) (p k : Nat) : Decidable (digs s p k) := by unfold digs; exact inferInstance
theorem acc_bd (s : ByteArray) (p : Nat) : ∀ k, digs s p k → 0 ≤ acc s p k ∧ acc s p k < 16 ^ k
  | 0, _ => ⟨Int.le_refl _, by show (0 : Int) < 16 ^ 0; decide⟩
  | k + 1, h => by
    have h1 := acc_bd s p k (fun j hj => h j (by omega))
    have h2 := h k (by omega)
    have h3 := hexv_lt (at_ s (p + k))
    have h4 : (16 : Int) ^ (k + 1) = 16 * 16 ^ k := by rw [Int.pow_succ]; omega
    show 0 ≤ 16 * acc s p k + hexv (at_ s (p + k)) ∧ 16 * acc s p k + hexv (at_ s (p + k)) < _
    omega
def four (s : ByteArray) (p : Nat) : Int := if p + 4 ≤ s.size ∧ digs s p 4 then acc s p 4 else -1
theorem four_yes {s : ByteArray} {p : Nat} (h : p + 4 ≤ s.size) (h2 : digs s p 4) : four s p = acc s p 4 ∧ 0 ≤ acc s p 4 ∧ acc s p 4 ≤ 65535 := by
  have h3 := acc_bd s p 4 h2
  have e : (16 : Int) ^ 4 = 65536 := by decide
  rw [e] at h3
  exact ⟨if_pos ⟨h, h2⟩, h3.1, by omega⟩
theorem four_no {s : ByteArray} {p : Nat} (h : ¬ (p + 4 ≤ s.size ∧ digs s p 4)) : four s p = -1 := if_neg h
theorem four_bd (s : ByteArray) (p : Nat) : -1 ≤ four s p ∧ four s p ≤ 65535 := by
  by_cases h : p + 4 ≤ s.size ∧ digs s p 4
  · have := four_yes h.1 h.2; omega
  · rw [four_no h]; omega
theorem four_room {s : ByteArray} {p : Nat} (h : 0 ≤ four s p) : p + 4 ≤ s.size := by
  by_cases e : p + 4 ≤ s.size ∧ digs s p 4
  · exact e.1
  · rw [four_no e] at h; omega

/-- A number told by four digits (the mark's letter stands at p), or by two such: the code point, and the place behind. -/
def uF (s : ByteArray) (p : Nat) : Int × Int :=
  if four s (p + 1) < 0 then (0, -1)
  else if 56320 ≤ four s (p + 1) ∧ four s (p + 1) ≤ 57343 then (0, -1)
  else if ¬ (55296 ≤ four s (p + 1) ∧ four s (p + 1) ≤ 56319) then (four s (p + 1), ((p + 5 : Nat) : Int))
  else if p + 7 ≤ s.size ∧ at_ s (p + 5) = 92 ∧ at_ s (p + 6) = 117 ∧ 56320 ≤ four s (p + 7) ∧ four s (p + 7) ≤ 57343 then (65536 + 1024 * (four s (p + 1) - 55296) + four s (p + 7) - 56320, ((p + 11 : Nat) : Int))
  else (0, -1)
/-- The letter at p behind a backslash. -/
def plain (x : Int) : Option Int :=
  if x = 34 then some 34 else if x = 92 then some 92 else if x = 47 then some 47 else if x = 98 then some 8 else if x = 102 then some 12
  else if x = 110 then some 10 else if x = 114 then some 13 else if x = 116 then some 9 else none
def escF (s : ByteArray) (p : Nat) : Int × Int :=
  if p < s.size then
    match plain (at_ s p) with
    | some n => (n, ((p + 1 : Nat) : Int))
    | none => if at_ s p = 117 then uF s p else (0, -1)
  else (0, -1)
noncomputable def runeF (s : ByteArray) (p : Nat) : Int × Int := if (rune.atF s (p : Int)).1 < 32 then (0, -1) else rune.atF s (p : Int)
noncomputable def stepF (s : ByteArray) (p : Nat) : Int × Int := if p < s.size ∧ at_ s p = 92 then escF s (p + 1) else runeF s p

/-- A step either fails, or goes on within the text with a code point. -/
def Fine (s : ByteArray) (p : Nat) (r : Int × Int) : Prop := r.2 = -1 ∨ ∃ q : Nat, r.2 = (q : Int) ∧ p < q ∧ q ≤ s.size ∧ 0 ≤ r.1 ∧ r.1 ≤ 1114111
theorem uF_fine (s : ByteArray) (p : Nat) : Fine s p (uF s p) := by
  unfold uF
  split
  · exact .inl rfl
  rename_i h1
  have h1' := four_room (s := s) (p := p + 1) (by omega)
  have hb := four_bd s (p + 1)
  split
  · exact .inl rfl
  split
  · exact .inr ⟨p + 5, rfl, by omega, by omega, by simp only; omega, by simp only; omega⟩
  split
  · rename_i h
    have h7 := four_room (s := s) (p := p + 7) (by omega)
    exact .inr ⟨p + 11, rfl, by omega, by omega, by simp only; omega, by simp only; omega⟩
  · exact .inl rfl
theorem plain_bd {x n : Int} (h : plain x = some n) : 0 ≤ n ∧ n ≤ 127 := by
  unfold plain at h
  repeat' split at h
  all_goals first | (injection h with h; omega) | cases h
theorem escF_fine (s : ByteArray) (p : Nat) : Fine s p (escF s p) := by
  unfold escF
  split
  · rename_i hp
    split
    · rename_i n hn
      have := plain_bd hn
      exact .inr ⟨p + 1, rfl, by omega, by omega, by simp only; omega, by simp only; omega⟩
    · split
      · exact uF_fine s p
      · exact .inl rfl
  · exact .inl rfl
theorem runeF_fine (s : ByteArray) (p : Nat) : Fine s p (runeF s p) := by
  unfold runeF
  split
  · exact .inl rfl
  · by_cases h : (rune.atF s (p : Int)).2 < 0
    · by_cases hh : ∃ n, rune.Is s p n
      · obtain ⟨n, hn⟩ := hh
        rw [rune.at_yes hn] at h
        simp only at h
        omega
      · rw [rune.at_none (fun n hn => hh ⟨n, hn⟩)]
        exact .inl rfl
    · obtain ⟨n, hi, e⟩ := rune.at_next h
      rw [e]
      have h1 := rune.enc_pos n
      have h2 := hi.2.1
      have h3 := hi.1
      unfold rune.valid at h3
      exact .inr ⟨p + (rune.enc n).length, rfl, by omega, h2, by simp only; omega, by simp only; omega⟩
theorem step_fine (s : ByteArray) (p : Nat) : Fine s p (stepF s p) := by
  unfold stepF
  split
  · rcases escF_fine s (p + 1) with h | ⟨q, h⟩
    · exact .inl h
    · exact .inr ⟨q, h.1, by omega, h.2.2⟩
  · exact runeF_fine s p

/-- The text between the quotes from place p on, behind l, and the place behind the closing quote. -/
noncomputable def readQ (s : ByteArray) (p : Nat) (l : List UInt8) : Option (List UInt8 × Nat) :=
  if hp : p < s.size then
    if at_ s p = 34 then some (l, p + 1)
    else if h : (stepF s p).2 ≤ (p : Int) then none
    else readQ s (stepF s p).2.toNat (l ++ (rune.textF (stepF s p).1).data.toList)
  else none
termination_by s.size - p
decreasing_by omega
theorem read_end {s : ByteArray} {p : Nat} {l : List UInt8} (h : s.size ≤ p) : readQ s p l = none := by rw [readQ, dif_neg (by omega)]
theorem read_close {s : ByteArray} {p : Nat} {l : List UInt8} (h : p < s.size) (h2 : at_ s p = 34) : readQ s p l = some (l, p + 1) := by rw [readQ, dif_pos h, if_pos h2]
theorem read_bad {s : ByteArray} {p : Nat} {l : List UInt8} (h2 : at_ s p ≠ 34 ∨ s.size ≤ p) (h3 : (stepF s p).2 < 0) : readQ s p l = none := by
  by_cases h : p < s.size
  · rw [readQ, dif_pos h, if_neg (by omega), dif_pos (by omega)]
  · exact read_end (by omega)
theorem read_go {s : ByteArray} {p q : Nat} {n : Int} {l : List UInt8} (h : p < s.size) (h2 : at_ s p ≠ 34) (h3 : stepF s p = (n, (q : Int))) (hq : p < q) : readQ s p l = readQ s q (l ++ (rune.textF n).data.toList) := by
  rw [readQ, dif_pos h, if_neg h2, dif_neg (by rw [h3]; simp only; omega), h3]
  rfl
noncomputable def quotedIn (s : ByteArray) (a : Nat) : ByteArray × Int := match readQ s (a + 1) [] with
  | some (l, q) => (⟨l.toArray⟩, (q : Int))
  | none => (⟨#[]⟩, -1)
noncomputable def readF (s : ByteArray) (a : Int) : ByteArray × Int := if 0 ≤ a ∧ a < s.size ∧ at_ s a.toNat = 34 then quotedIn s a.toNat else (⟨#[]⟩, -1)
theorem readF_no {s : ByteArray} {a : Int} (h : ¬ (0 ≤ a ∧ a < s.size ∧ at_ s a.toNat = 34)) : readF s a = (⟨#[]⟩, -1) := if_neg h
theorem readF_yes {s : ByteArray} {a : Nat} (h : a < s.size) (h2 : at_ s a = 34) : readF s (a : Int) = quotedIn s a := by
  unfold readF
  rw [if_pos ⟨by omega, by omega, by simpa using h2⟩, Int.toNat_natCast]
theorem in_some {s : ByteArray} {a q : Nat} {l : List UInt8} (h : readQ s (a + 1) [] = some (l, q)) : quotedIn s a = (⟨l.toArray⟩, (q : Int)) := by unfold quotedIn; rw [h]
theorem in_none {s : ByteArray} {a : Nat} (h : readQ s (a + 1) [] = none) : quotedIn s a = (⟨#[]⟩, -1) := by unfold quotedIn; rw [h]
theorem read_place {s : ByteArray} : ∀ (n p : Nat) (l r : List UInt8) (q : Nat), s.size - p = n → readQ s p l = some (r, q) → p < q ∧ q ≤ s.size := by
  intro n
  induction n using Nat.strongRecOn with
  | _ n ih =>
    intro p l r q hn h
    by_cases hp : p < s.size
    · by_cases h2 : at_ s p = 34
      · rw [read_close hp h2] at h
        injection h with h
        injection h with h h'
        omega
      · rcases step_fine s p with hf | ⟨q', e, h4, h5, _⟩
        · rw [read_bad (.inl h2) (by omega)] at h; cases h
        · have e3 : stepF s p = ((stepF s p).1, (q' : Int)) := by rw [← e]
          rw [read_go hp h2 e3 h4] at h
          have := ih (s.size - q') (by omega) q' _ r q rfl h
          omega
    · rw [read_end (by omega)] at h; cases h
theorem readF_bd (s : ByteArray) (a : Int) : (readF s a = (⟨#[]⟩, -1)) ∨ ∃ q : Nat, (readF s a).2 = (q : Int) ∧ a < (q : Int) ∧ q ≤ s.size := by
  by_cases h : 0 ≤ a ∧ a < s.size ∧ at_ s a.toNat = 34
  · obtain ⟨a, rfl⟩ := Int.eq_ofNat_of_zero_le h.1
    rw [readF_yes (by omega) (by simpa using h.2.2)]
    cases e : readQ s (a + 1) [] with
    | none => exact .inl (in_none e)
    | some p =>
      obtain ⟨l, q⟩ := p
      have := read_place _ (a + 1) [] l q rfl e
      rw [in_some e]
      exact .inr ⟨q, rfl, by omega, this.2⟩
  · exact .inl (readF_no h)
end Go.Proofs.YtbfkkaafkinpmaaGreatDoor.readq
namespace Go.Proofs.YtbfkkaafkinpmaaGreatDoor.line
open Go.ChangeShapes Go.WideShapes Go.ChangeAt Go.RowKit
set_option linter.unusedVariables false

def firsts : List UInt8 := [45, 63, 58, 44, 91, 93, 123, 125, 38, 42, 33, 124, 62, 39, 37, 64, 96]
/-- A byte that no plain text holds. -/
def odd (x : Int) : Prop := x < 32 ∨ x = 34 ∨ x = 35 ∨ x = 92
instance (x : Int) : Decidable (odd x) := by unfold odd; exact inferInstance
def figB (x : Int) : Prop := 48 ≤ x ∧ x ≤ 57
def wordsL : List (List UInt8) := [[110, 117, 108, 108], [126], [116, 114, 117, 101], [102, 97, 108, 115, 101]]
/-- Digits alone. -/
def Figs (s : ByteArray) : Prop := ∀ k, k < s.size → figB (at_ s k)
noncomputable instance (s : ByteArray) : Decidable (Figs s) := Classical.propDecidable _
structure Plain (s : ByteArray) : Prop where
  pos : 0 < s.size
  le : s.size ≤ 400
  utf : (rune.runesF s).isSome = true
  bl : at_ s 0 ≠ 32
  br : at_ s (s.size - 1) ≠ 32
  first : ∀ b ∈ firsts, at_ s 0 ≠ (b.toNat : Int)
  all : ∀ k, k < s.size → ¬ odd (at_ s k) ∧ ¬ ends s k
  figs : ¬ Figs s
  word : s.data.toList ∉ wordsL
noncomputable instance (s : ByteArray) : Decidable (Plain s) := Classical.propDecidable _
noncomputable def plainF (s : ByteArray) : Bool := decide (Plain s)
theorem plain_yes {s : ByteArray} (h : Plain s) : plainF s = true := by unfold plainF; exact decide_eq_true h
theorem plain_no {s : ByteArray} (h : ¬ Plain s) : plainF s = false := by unfold plainF; exact decide_eq_false h
theorem plain_iff {s : ByteArray} : plainF s = true ↔ Plain s := by unfold plainF; exact decide_eq_true_iff

/-- The key of a line and where it ends: -1: there is none. -/
noncomputable def keyIn (s : ByteArray) : ByteArray × Int :=
  if 0 < s.size ∧ at_ s 0 = 34 then readq.readF s 0
  else if 0 ≤ ke s ∧ plainF (s.extract 0 (ke s).toNat) = true then (s.extract 0 (ke s).toNat, ke s)
  else (⟨#[]⟩, -1)
theorem keyIn_bd (s : ByteArray) : keyIn s = (⟨#[]⟩, -1) ∨ ∃ q : Nat, (keyIn s).2 = (q : Int) ∧ q ≤ s.size := by
  unfold keyIn
  split
  · rcases readq.readF_bd s 0 with h | ⟨q, h1, _, h2⟩
    · exact .inl h
    · exact .inr ⟨q, h1, h2⟩
  · split
    · next h =>
      rcases ke_cases s with ⟨n, h1, h2, _⟩ | ⟨h1, _⟩
      · exact .inr ⟨n, h1, by have := h2.1; omega⟩
      · omega
    · exact .inl rfl
/-- The key, the rest, and whether there is a key. -/
noncomputable def keyOf (s : ByteArray) : ByteArray × ByteArray × Bool :=
  if 0 ≤ (keyIn s).2 ∧ ends s (keyIn s).2.toNat then ((keyIn s).1, trimL (s.extract ((keyIn s).2.toNat + 1) s.size), true)
  else (⟨#[]⟩, ⟨#[]⟩, false)
/-- An item of a list: its text, how many bytes stand ahead of it, whether it is one. -/
def itemOf (s : ByteArray) : ByteArray × Int × Bool :=
  if s.data.toList = [45] then (⟨#[]⟩, 0, true)
  else if 1 < s.size ∧ at_ s 0 = 45 ∧ at_ s 1 = 32 then (s.extract (1 + ind (s.extract 1 s.size)) s.size, ((1 + ind (s.extract 1 s.size) : Nat) : Int), true)
  else (⟨#[]⟩, 0, false)
end Go.Proofs.YtbfkkaafkinpmaaGreatDoor.line
namespace Go.Proofs.YtbfkkaafkinpmaaGreatDoor.line
open Go.ChangeShapes Go.WideShapes Go.ChangeAt Go.RowKit
set_option linter.unusedVariables false

/-- Here a comment or a quoted string may begin. -/
def fresh (s : ByteArray) (i : Nat) : Prop := i = 0 ∨ at_ s (i - 1) = 32
instance (s : ByteArray) (i : Nat) : Decidable (fresh s i) := by unfold fresh; exact inferInstance
/-- Where the comment begins, read from byte i on (q: inside a quoted string). -/
def cmt (s : ByteArray) (i : Nat) (q : Bool) : Nat :=
  if h : i < s.size then
    if q = true then
      if at_ s i = 92 then cmt s (i + 2) true
      else if at_ s i = 34 then cmt s (i + 1) false
      else cmt s (i + 1) true
    else if fresh s i ∧ at_ s i = 34 then cmt s (i + 1) true
    else if fresh s i ∧ at_ s i = 35 then i
    else cmt s (i + 1) false
  else s.size
termination_by s.size - i
theorem cmt_out {s : ByteArray} {i : Nat} {q : Bool} (h : s.size ≤ i) : cmt s i q = s.size := by
  rw [cmt, dif_neg (by omega)]
theorem cmt_skip {s : ByteArray} {i : Nat} (h : i < s.size) (h1 : at_ s i = 92) : cmt s i true = cmt s (i + 2) true := by
  rw [cmt, dif_pos h, if_pos rfl, if_pos h1]
theorem cmt_shut {s : ByteArray} {i : Nat} (h : i < s.size) (h1 : at_ s i = 34) : cmt s i true = cmt s (i + 1) false := by
  rw [cmt, dif_pos h, if_pos rfl, if_neg (by omega), if_pos h1]
theorem cmt_in {s : ByteArray} {i : Nat} (h : i < s.size) (h1 : at_ s i ≠ 92) (h2 : at_ s i ≠ 34) : cmt s i true = cmt s (i + 1) true := by
  rw [cmt, dif_pos h, if_pos rfl, if_neg h1, if_neg h2]
theorem cmt_open {s : ByteArray} {i : Nat} (h : i < s.size) (hf : fresh s i) (h1 : at_ s i = 34) : cmt s i false = cmt s (i + 1) true := by
  rw [cmt, dif_pos h, if_neg (by decide), if_pos ⟨hf, h1⟩]
theorem cmt_here {s : ByteArray} {i : Nat} (h : i < s.size) (hf : fresh s i) (h1 : at_ s i = 35) : cmt s i false = i := by
  rw [cmt, dif_pos h, if_neg (by decide), if_neg (by omega), if_pos ⟨hf, h1⟩]
theorem cmt_on {s : ByteArray} {i : Nat} (h : i < s.size) (h1 : ¬ (fresh s i ∧ at_ s i = 34)) (h2 : ¬ (fresh s i ∧ at_ s i = 35)) : cmt s i false = cmt s (i + 1) false := by
  rw [cmt, dif_pos h, if_neg (by decide), if_neg h1, if_neg h2]
theorem cmt_le (s : ByteArray) : ∀ (k i : Nat) (q : Bool), s.size - i ≤ k → cmt s i q ≤ s.size
  | 0, i, q, h => by rw [cmt_out (by omega)]; exact Nat.le_refl _
  | k + 1, i, q, h => by
    by_cases hi : i < s.size
    · rw [cmt, dif_pos hi]
      split
      · split
        · exact cmt_le s k _ _ (by omega)
        · split
          · exact cmt_le s k _ _ (by omega)
          · exact cmt_le s k _ _ (by omega)
      · split
        · exact cmt_le s k _ _ (by omega)
        · split
          · omega
          · exact cmt_le s k _ _ (by omega)
    · rw [cmt_out (by omega)]; exact Nat.le_refl _
/-- The end of a quoted string, read from byte i on; or an offset behind the line. -/
def cq (s : ByteArray) (i : Nat) : Nat :=
  if h : i < s.size ∧ at_ s i ≠ 34 then
    if at_ s i = 92 then cq s (i + 2) else cq s (i + 1)
  else i
termination_by s.size - i
theorem cq_end {s : ByteArray} {i : Nat} (h : s.size ≤ i ∨ at_ s i = 34) : cq s i = i := by
  rw [cq, dif_neg]
  rintro ⟨h1, h2⟩
  rcases h with h | h
  · omega
  · exact h2 h
theorem cq_skip {s : ByteArray} {i : Nat} (h : i < s.size) (h1 : at_ s i = 92) : cq s i = cq s (i + 2) := by
  rw [cq, dif_pos ⟨h, by omega⟩, if_pos h1]
theorem cq_on {s : ByteArray} {i : Nat} (h : i < s.size) (h1 : at_ s i ≠ 92) (h2 : at_ s i ≠ 34) : cq s i = cq s (i + 1) := by
  rw [cq, dif_pos ⟨h, h2⟩, if_neg h1]
theorem cq_le (s : ByteArray) : ∀ (k i : Nat), s.size - i ≤ k → i ≤ s.size + 1 → i ≤ cq s i ∧ cq s i ≤ s.size + 1
  | 0, i, h, h1 => by rw [cq_end (.inl (by omega))]; omega
  | k + 1, i, h, h1 => by
    by_cases c : i < s.size ∧ at_ s i ≠ 34
    · by_cases c2 : at_ s i = 92
      · rw [cq_skip c.1 c2]
        have := cq_le s k (i + 2) (by omega) (by omega)
        omega
      · rw [cq_on c.1 c2 c.2]
        have := cq_le s k (i + 1) (by omega) (by omega)
        omega
    · rw [cq, dif_neg c]; omega
theorem cmt_cq (s : ByteArray) : ∀ (k i : Nat), s.size - i ≤ k → cmt s i true = cmt s (cq s i + 1) false
  | 0, i, h => by rw [cq_end (.inl (by omega)), cmt_out (by omega), cmt_out (by omega)]
  | k + 1, i, h => by
    by_cases c : i < s.size ∧ at_ s i ≠ 34
    · by_cases c2 : at_ s i = 92
      · rw [cq_skip c.1 c2, cmt_skip c.1 c2]
        exact cmt_cq s k (i + 2) (by omega)
      · rw [cq_on c.1 c2 c.2, cmt_in c.1 c2 c.2]
        exact cmt_cq s k (i + 1) (by omega)
    · by_cases hi : i < s.size
      · have h34 : at_ s i = 34 := Classical.byContradiction fun e => c ⟨hi, e⟩
        rw [cq_end (.inr h34), cmt_shut hi h34]
      · rw [cq_end (.inl (by omega)), cmt_out (by omega), cmt_out (by omega)]
def com (s : ByteArray) : Nat := cmt s 0 false
theorem com_le (s : ByteArray) : com s ≤ s.size := cmt_le s _ _ _ (Nat.le_refl _)
/-- The line without its comment and the spaces ahead of it. -/
def bare (s : ByteArray) : ByteArray := s.extract 0 (rt s (com s))
theorem bare_le (s : ByteArray) : rt s (com s) ≤ s.size := Nat.le_trans (rt_le _ _) (com_le s)
theorem bare_size (s : ByteArray) : (bare s).size = rt s (com s) := by unfold bare; rw [size_ex _ _ _ (bare_le s)]; omega
end Go.Proofs.YtbfkkaafkinpmaaGreatDoor.line
