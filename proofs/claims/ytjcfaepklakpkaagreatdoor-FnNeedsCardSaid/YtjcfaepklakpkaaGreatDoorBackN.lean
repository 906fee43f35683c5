/- A sorted list of requirements, turned round and sorted again: plain. -/
import Derived.Test.YtjcfaepklakpkaaGreatDoorGNeedP
namespace Go.Proofs.YtjcfaepklakpkaaGreatDoor.need
open Go Go.RowKit ty lab dedup
set_option linter.unusedVariables false

theorem chain_asc {α : Type} {lt : α → α → Bool} (o : Ord lt) {l : List α} (h : ∀ i (hi : i < l.length) m (hm : m + 1 = i), lt (l[m]'(by omega)) l[i] = true) : Asc lt l := by
  unfold Asc
  rw [List.pairwise_iff_getElem]
  intro i j hi hj hij
  induction j with
  | zero => omega
  | succ j ih =>
    have hs := h (j + 1) hj j rfl
    by_cases e : i = j
    · subst e; exact hs
    · exact o.tr _ _ _ (ih (by omega) (by omega)) hs
theorem norm_good {y : Need} (h : NeedP y) : normN y = y := by
  have e : dsort lessB y.values = y.values := by
    by_cases ho : y.op < 3
    · exact dsort_asc ordB _ (chain_asc ordB fun i hi m hm => ((h.some ho).2.2 i hi hi).2 m hm)
    · have := List.eq_nil_of_length_eq_zero (h.none (by omega))
      rw [this]; rfl
  cases y
  unfold normN
  simp only at e ⊢
  rw [e]
theorem need_few {y : Need} (h : NeedP y) : y.values.length ≤ 4 := by
  by_cases ho : y.op < 3
  · exact (h.some ho).2.1
  · have := h.none (by omega); omega
theorem out_back {r : List Need} (hP : SelP r) : outN r.reverse = r := by
  have hg : ∀ y ∈ r, NeedP y := fun y hy => by
    obtain ⟨i, hi, rfl⟩ := List.getElem_of_mem hy
    exact (hP.2 i hi hi).1
  have e : r.reverse.map normN = r.reverse := by
    have h := List.map_congr_left (f := normN) (g := id) (l := r.reverse) fun y hy => norm_good (hg y (List.mem_reverse.1 hy))
    rw [h, List.map_id]
  unfold outN
  rw [e]
  exact (dsort_is ordN r.reverse r (chain_asc ordN fun i hi m hm => (hP.2 i hi hi).2 m hm) (fun y => by simp)).symm
theorem back_sort {r : List Need} (hP : SelP r) : sortN r.reverse = (r, true) := by
  have hb := out_back hP
  rw [sortN_yes ⟨by rw [List.length_reverse]; have := hP.1; omega, fun i hi _ => by
    have hm : r.reverse[i] ∈ r := List.mem_reverse.1 (List.getElem_mem hi)
    obtain ⟨j, hj, e⟩ := List.getElem_of_mem hm
    have := need_few (hP.2 j hj hj).1
    rw [e] at this
    omega, by rw [hb]; exact hP⟩, hb]
theorem sortN_cases (l : List Need) : sortN l = (l, false) ∨ (sortN l = (outN l, true) ∧ SelP (outN l)) := by
  by_cases h : l.length ≤ 40 ∧ FewN l l.length ∧ SelP (outN l)
  · exact .inr ⟨sortN_yes h, h.2.2⟩
  · exact .inl (sortN_no h)
theorem lessN_asym {a b : Need} (h : lessN a b = true) : lessN b a = false := by
  cases e : lessN b a with
  | false => rfl
  | true =>
    have := lessN_tr a b a h e
    rw [lessN_irr] at this; cases this
end Go.Proofs.YtjcfaepklakpkaaGreatDoor.need
