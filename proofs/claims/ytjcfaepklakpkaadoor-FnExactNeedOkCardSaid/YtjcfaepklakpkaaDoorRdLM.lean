/- A line of labels, read: plain. -/
import Derived.Test.YtjcfaepklakpkaaDoorCutM
import Derived.Test.YtjcfaepklakpkaaDoorLabM
namespace Go.Proofs.YtjcfaepklakpkaaDoor.lab
open Go Go.RowKit ty cut
set_option linter.unusedVariables false

theorem cut_pos (s : ByteArray) (c : Int) : 0 < (cutF s c).length := by
  unfold cutF
  simp only [cs, true_or, if_true]
  simp
def pairF (p : ByteArray) : Option Label := match cutF p 61 with
  | [a, b] => some ⟨a, b⟩
  | _ => none
theorem pair_no {p : ByteArray} (h : (cutF p 61).length ≠ 2) : pairF p = none := by
  unfold pairF
  split
  · next a b e => rw [e] at h; exact absurd rfl h
  · rfl
theorem pair_yes {p a b : ByteArray} (h : cutF p 61 = [a, b]) : pairF p = some ⟨a, b⟩ := by unfold pairF; rw [h]
def pairs : List ByteArray → Option (List Label)
  | [] => some []
  | p :: r => match pairF p, pairs r with
    | some x, some l => some (x :: l)
    | _, _ => none
theorem pairs_snoc : ∀ (a : List ByteArray) (p : ByteArray) (l : List Label) (x : Label), pairs a = some l → pairF p = some x → pairs (a ++ [p]) = some (l ++ [x])
  | [], p, l, x, h, hx => by
    simp [pairs] at h
    subst h
    simp [pairs, hx]
  | q :: r, p, l, x, h, hx => by
    rw [List.cons_append, pairs]
    rw [pairs] at h
    cases hq : pairF q with
    | none => rw [hq] at h; simp at h
    | some y =>
      cases hr : pairs r with
      | none => rw [hq, hr] at h; simp at h
      | some m =>
        rw [hq, hr] at h
        simp at h
        subst h
        rw [pairs_snoc r p m x hr hx]
        simp
theorem pairs_dead : ∀ (a : List ByteArray) (p : ByteArray), p ∈ a → pairF p = none → pairs a = none
  | [], p, h, _ => by cases h
  | q :: r, p, h, hx => by
    rw [pairs]
    rcases List.mem_cons.1 h with rfl | h
    · rw [hx]
    · rw [pairs_dead r p h hx]
      cases pairF q <;> rfl
theorem pairs_sizes : ∀ (a : List ByteArray) (l : List Label) (m : Nat), (∀ p ∈ a, p.size ≤ m) → pairs a = some l → (∀ x ∈ l, x.key.size ≤ m ∧ x.value.size ≤ m) ∧ l.length = a.length
  | [], l, m, h, hl => by
    simp [pairs] at hl
    subst hl
    exact ⟨(by intro x hx; cases hx), rfl⟩
  | q :: r, l, m, h, hl => by
    rw [pairs] at hl
    cases hq : pairF q with
    | none => rw [hq] at hl; simp at hl
    | some y =>
      cases hr : pairs r with
      | none => rw [hq, hr] at hl; simp at hl
      | some k =>
        rw [hq, hr] at hl
        simp at hl
        subst hl
        obtain ⟨h1, h2⟩ := pairs_sizes r k m (fun p hp => h p (List.mem_cons_of_mem _ hp)) hr
        refine ⟨fun x hx => ?_, by simp [h2]⟩
        rcases List.mem_cons.1 hx with rfl | hx
        · have hqs := h q List.mem_cons_self
          unfold pairF at hq
          split at hq
          · next a b e =>
            injection hq with hq
            subst hq
            have h3 := cut_sizes q 61
            rw [e] at h3
            have h4 := h3 a List.mem_cons_self
            have h5 := h3 b (List.mem_cons_of_mem _ List.mem_cons_self)
            exact ⟨Nat.le_trans h4 hqs, Nat.le_trans h5 hqs⟩
          · cases hq
        · exact h1 x hx
open Classical in
noncomputable def readF (s : ByteArray) : List Label × Bool :=
  if s = ⟨#[45]⟩ then ([], true) else if 400 < s.size then ([], false) else match pairs (cutF s 44) with
    | some l => if LabelsP l then (l, true) else ([], false)
    | none => ([], false)
theorem read_dash : readF ⟨#[45]⟩ = ([], true) := by unfold readF; rw [if_pos rfl]
theorem read_long {s : ByteArray} (h : s ≠ ⟨#[45]⟩) (h2 : 400 < s.size) : readF s = ([], false) := by unfold readF; rw [if_neg h, if_pos h2]
theorem read_none {s : ByteArray} (h : s ≠ ⟨#[45]⟩) (h2 : ¬ 400 < s.size) (h3 : pairs (cutF s 44) = none) : readF s = ([], false) := by unfold readF; rw [if_neg h, if_neg h2, h3]
theorem read_bad {s : ByteArray} {l : List Label} (h : s ≠ ⟨#[45]⟩) (h2 : ¬ 400 < s.size) (h3 : pairs (cutF s 44) = some l) (h4 : ¬ LabelsP l) : readF s = ([], false) := by unfold readF; rw [if_neg h, if_neg h2, h3]; simp only; rw [if_neg h4]
theorem read_good {s : ByteArray} {l : List Label} (h : s ≠ ⟨#[45]⟩) (h2 : ¬ 400 < s.size) (h3 : pairs (cutF s 44) = some l) (h4 : LabelsP l) : readF s = (l, true) := by unfold readF; rw [if_neg h, if_neg h2, h3]; simp only; rw [if_pos h4]
theorem read_len (s : ByteArray) : (readF s).1.length ≤ 1048576 := by
  unfold readF
  split
  · simp
  · split
    · simp
    · split
      · split
        · next h => have := h.1; show _ ≤ _; simp only; omega
        · simp
      · simp
end Go.Proofs.YtjcfaepklakpkaaDoor.lab
