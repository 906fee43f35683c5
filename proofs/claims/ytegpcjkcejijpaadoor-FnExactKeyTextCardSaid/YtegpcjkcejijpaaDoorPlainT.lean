/- What may be written without quotes: how the functions of the library say it. -/
import Derived.Test.YtegpcjkcejijpaaDoorPlainM
import Derived.Test.YtegpcjkcejijpaaDoorSplitM
namespace Go.Proofs.YtegpcjkcejijpaaDoor.line
open Go.ChangeShapes Go.WideShapes Go.ChangeAt Go.RowKit
set_option linter.unusedVariables false

theorem ex_all (s : ByteArray) : s.extract 0 s.size = s := by
  have h : (s.extract 0 s.size).data.toList = s.data.toList := by
    rw [ex0_list]
    exact List.take_of_length_le (by rw [len_list]; exact Nat.le_refl _)
  rw [mk_eq h]
theorem trimR_all (s : ByteArray) : Lib.trimRightB s.data.toList 32 = s.data.toList.take (rt s s.size) := by
  have h := trimR_is s s.size (Nat.le_refl _)
  rw [ex_all] at h
  have h2 := congrArg (fun t : ByteArray => t.data.toList) h
  simp only [ex0_list] at h2
  exact h2
theorem trim_yes {s : ByteArray} (h0 : 0 < s.size) (h1 : at_ s 0 ≠ 32) (h2 : at_ s (s.size - 1) ≠ 32) : Lib.trimB s.data.toList 32 = s.data.toList := by
  unfold Lib.trimB
  rw [trimR_all, rt_end (.inr h2), List.take_of_length_le (by rw [len_list]; exact Nat.le_refl _), trim_isp]
  have : ind s = 0 := ind_end (Nat.zero_le _) (.inr h1)
  unfold ind at this
  rw [this]; rfl
theorem trim_no {s : ByteArray} (h0 : 0 < s.size) (h : at_ s 0 = 32 ∨ at_ s (s.size - 1) = 32) : Lib.trimB s.data.toList 32 ≠ s.data.toList := by
  intro e
  unfold Lib.trimB at e
  rw [trimR_all, trim_isp] at e
  have hl := congrArg List.length e
  rw [List.length_drop, List.length_take, len_list] at hl
  have hr := rt_le s s.size
  by_cases c : at_ s (s.size - 1) = 32
  · have h3 := rt_go h0 c
    have h4 := rt_le s (s.size - 1)
    omega
  · rw [rt_end (.inr c)] at hl e
    rw [List.take_of_length_le (by rw [len_list]; exact Nat.le_refl _)] at hl e
    have h5 := ind_go (s := s) (k := 0) (Nat.zero_le _) h0 (by rcases h with h | h; exact h; exact absurd h c)
    unfold ind at h5
    omega
theorem trim_eq {s : ByteArray} (h0 : 0 < s.size) : ((⟨(Lib.trimB s.data.toList 32).toArray⟩ : ByteArray).toList == s.toList) = decide (at_ s 0 ≠ 32 ∧ at_ s (s.size - 1) ≠ 32) := by
  rw [ByteArray.toList_eq, ByteArray.toList_eq]
  by_cases c : at_ s 0 ≠ 32 ∧ at_ s (s.size - 1) ≠ 32
  · rw [decide_eq_true c, beq_iff_eq]
    exact trim_yes h0 c.1 c.2
  · rw [decide_eq_false c, beq_eq_false_iff_ne]
    exact trim_no h0 (by omega)
theorem figs_lead (s : ByteArray) : split.lead s = s.size ↔ Figs s := by
  have hl := split.lead_le s
  constructor
  · intro e k hk
    exact split.lead_dig (by omega)
  · intro h
    by_cases c : split.lead s < s.size
    · exact absurd (h _ c) (split.lead_stop c)
    · omega
theorem figs_snd (s : ByteArray) : (split.snd s).toList.isEmpty = decide (Figs s) := by
  have hz := split.snd_size s
  have hl := split.lead_le s
  by_cases c : Figs s
  · rw [decide_eq_true c]
    exact empty_yes (by have := (figs_lead s).2 c; omega)
  · rw [decide_eq_false c]
    refine empty_no ?_
    have h : split.lead s ≠ s.size := fun e => c ((figs_lead s).1 e)
    omega
def isFirst (x : Int) : Bool := firsts.any fun b => decide (x = (b.toNat : Int))
theorem isFirst_no {x : Int} (h : isFirst x = false) : ∀ b ∈ firsts, x ≠ (b.toNat : Int) := by
  intro b hb e
  have : isFirst x = true := List.any_eq_true.2 ⟨b, hb, decide_eq_true e⟩
  rw [h] at this
  cases this
theorem isFirst_yes {x : Int} (h : isFirst x = true) : ¬ ∀ b ∈ firsts, x ≠ (b.toNat : Int) := by
  obtain ⟨b, hb, e⟩ := List.any_eq_true.1 h
  exact fun h2 => h2 b hb (of_decide_eq_true e)
theorem first_all : ∀ n : Fin 256, decide (Lib.indexByte firsts (UInt8.ofNat n.val) < 0) = ! isFirst (n.val : Int) := by decide +kernel
theorem first_index (x : Int) (h0 : 0 ≤ x) (h1 : x < 256) : decide (Lib.indexByte firsts (UInt8.ofNat x.toNat) < 0) = ! isFirst x := by
  have h := first_all ⟨x.toNat, by omega⟩
  simp only at h
  rw [h]
  congr 2
  omega
/-- Where a text's bytes are fine (what impl asks ahead of the rest). -/
def Bytes (s : ByteArray) : Prop := (∀ k, k < s.size → ¬ odd (at_ s k)) ∧ at_ s 0 ≠ 32 ∧ at_ s (s.size - 1) ≠ 32 ∧ isFirst (at_ s 0) = false
noncomputable instance (s : ByteArray) : Decidable (Bytes s) := Classical.propDecidable _
theorem plain_of {s : ByteArray} (h0 : 0 < s.size) (h1 : s.size ≤ 400) (h2 : (rune.runesF s).isSome = true) (h3 : Bytes s) (h4 : ke s = -1) (h5 : ¬ Figs s) (h6 : s.data.toList ∉ wordsL) : plainF s = true := by
  refine plain_yes ⟨h0, h1, h2, h3.2.1, h3.2.2.1, isFirst_no h3.2.2.2, fun k hk => ⟨h3.1 k hk, ?_⟩, h5, h6⟩
  rcases ke_cases s with ⟨n, e, _⟩ | ⟨_, e⟩
  · omega
  · exact e k
theorem plain_bytes {s : ByteArray} (h : Plain s) : Bytes s := by
  refine ⟨fun k hk => (h.all k hk).1, h.bl, h.br, ?_⟩
  cases e : isFirst (at_ s 0) with
  | false => rfl
  | true => exact absurd h.first (isFirst_yes e)
theorem plain_ke {s : ByteArray} (h : Plain s) : ke s = -1 := ke_no fun j hj => (h.all j hj.1).2 hj
end Go.Proofs.YtegpcjkcejijpaaDoor.line
