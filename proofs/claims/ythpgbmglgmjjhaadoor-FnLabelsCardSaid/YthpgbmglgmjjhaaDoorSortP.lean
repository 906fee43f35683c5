/- Any list in order that holds the same labels: plain. -/
import Derived.Test.YthpgbmglgmjjhaaDoorGRdP
import Derived.Test.YthpgbmglgmjjhaaDoorGLabM
namespace Go.Proofs.YthpgbmglgmjjhaaDoor.lab
open Go Go.RowKit ty
set_option linter.unusedVariables false

theorem less_total : ∀ a b : List UInt8, Op.bytesLess a b = false → Op.bytesLess b a = false → a = b
  | [], [], _, _ => rfl
  | [], b :: y, h, _ => by simp [Op.bytesLess] at h
  | a :: x, [], _, h => by simp [Op.bytesLess] at h
  | a :: x, b :: y, h1, h2 => by
    simp only [Op.bytesLess, Bool.or_eq_false_iff, Bool.and_eq_false_iff, decide_eq_false_iff_not, beq_eq_false_iff_ne] at h1 h2
    obtain ⟨h1, h3⟩ := h1
    obtain ⟨h2, h4⟩ := h2
    rw [UInt8.lt_iff_toNat_lt] at h1 h2
    obtain rfl : a = b := UInt8.toNat_inj.1 (by omega)
    rcases h3 with h3 | h3
    · exact absurd rfl h3
    · rcases h4 with h4 | h4
      · exact absurd rfl h4
      · rw [less_total x y h3 h4]
theorem less_ntrans (a b c : List UInt8) (h1 : Op.bytesLess a b = false) (h2 : Op.bytesLess b c = false) : Op.bytesLess a c = false := by
  cases h : Op.bytesLess a c with
  | false => rfl
  | true =>
    exfalso
    by_cases hba : Op.bytesLess b a = true
    · have := less_trans b a c hba h
      rw [h2] at this; cases this
    · have hba : Op.bytesLess b a = false := by simpa using hba
      rw [less_total a b h1 hba, h2] at h
      cases h
theorem key_same {a b : ByteArray} (h1 : lessB a b = false) (h2 : lessB b a = false) : a = b := by
  have := less_total _ _ h1 h2
  rw [ByteArray.toList_eq, ByteArray.toList_eq] at this
  apply ByteArray.ext
  exact Array.ext' this
def Weak (x y : Label) : Prop := lessB y.key x.key = false
def Strict (x y : Label) : Prop := lessB x.key y.key = true
theorem strict_weak {x y : Label} (h : Strict x y) : Weak x y := by
  unfold Strict at h
  unfold Weak
  cases h2 : lessB y.key x.key with
  | false => rfl
  | true =>
    have := less_trans _ _ _ h h2
    rw [less_irr] at this
    cases this
theorem uniq {a b : List Label} (h1 : a.Pairwise Strict) (h2 : b.Pairwise Weak) (hp : List.Perm a b) : a = b := by
  refine List.Perm.eq_of_pairwise (le := Weak) (fun x y hx hy e1 e2 => ?_) (h1.imp strict_weak) h2 hp
  have hy := hp.mem_iff.2 hy
  obtain ⟨i, hi, rfl⟩ := List.getElem_of_mem hx
  obtain ⟨j, hj, rfl⟩ := List.getElem_of_mem hy
  have hk := key_same e2 e1
  rw [List.pairwise_iff_getElem] at h1
  rcases Nat.lt_trichotomy i j with h | h | h
  · have := h1 i j hi hj h
    unfold Strict lessB at this
    rw [hk, less_irr] at this; cases this
  · subst h; rfl
  · have := h1 j i hj hi h
    unfold Strict lessB at this
    rw [hk, less_irr] at this; cases this
theorem labels_strict {l : List Label} (h : LabelsP l) : l.Pairwise Strict := by
  rw [List.pairwise_iff_getElem]
  intro i j hi hj hij
  exact asc h j i hj hij
theorem ins_perm (x : Label) (l : List Label) : List.Perm (ins x l) (x :: l) := by
  unfold ins
  refine List.perm_middle.trans ?_
  rw [List.takeWhile_append_dropWhile]
theorem sorted_perm (l : List Label) : List.Perm (sorted l) l := by
  have h : ∀ (l acc : List Label), List.Perm (l.foldl (fun a x => ins x a) acc) (acc ++ l) := by
    intro l
    induction l with
    | nil => intro acc; simp
    | cons a r ih =>
      intro acc
      rw [List.foldl_cons]
      refine (ih _).trans ?_
      refine ((ins_perm a acc).append_right r).trans ?_
      rw [List.cons_append]
      exact (List.perm_middle (a := a) (l₁ := acc) (l₂ := r)).symm
  have := h l []
  rw [List.nil_append] at this
  exact this
theorem ins_weak {x : Label} {l : List Label} (h : l.Pairwise Weak) : (ins x l).Pairwise Weak := by
  unfold ins
  rw [List.pairwise_append]
  have h1 : (l.takeWhile (fun y => !lessB x.key y.key)).Pairwise Weak := h.sublist (List.takeWhile_sublist _)
  have h2 : (l.dropWhile (fun y => !lessB x.key y.key)).Pairwise Weak := h.sublist (List.dropWhile_suffix _).sublist
  have h3 : ∀ y ∈ l.takeWhile (fun y => !lessB x.key y.key), lessB x.key y.key = false := fun y hy => by
    have := List.all_takeWhile (p := fun y => !lessB x.key y.key) (l := l)
    have := List.all_eq_true.1 this y hy
    simpa using this
  have h4 : ∀ y ∈ l.dropWhile (fun y => !lessB x.key y.key), lessB x.key y.key = true := by
    cases hd : l.dropWhile (fun y => !lessB x.key y.key) with
    | nil => intro y hy; cases hy
    | cons z r =>
      have hz := List.head?_dropWhile_not (fun y => !lessB x.key y.key) l
      rw [hd] at hz h2
      simp at hz
      intro y hy
      rcases List.mem_cons.1 hy with rfl | hy
      · exact hz
      · have hw : Weak z y := (List.pairwise_cons.1 h2).1 y hy
        cases hxy : lessB x.key y.key with
        | true => rfl
        | false =>
          exfalso
          have := less_ntrans _ _ _ hxy hw
          unfold lessB at hz
          rw [hz] at this; cases this
  refine ⟨h1, ?_, ?_⟩
  · rw [List.pairwise_cons]
    refine ⟨fun y hy => ?_, h2⟩
    exact strict_weak (h4 y hy)
  · intro a ha b hb
    rcases List.mem_cons.1 hb with rfl | hb
    · exact h3 a ha
    · exact strict_weak (by
        have e1 := h3 a ha
        have e2 := h4 b hb
        unfold Strict
        cases hab : lessB a.key b.key with
        | true => rfl
        | false =>
          exfalso
          have := less_ntrans _ _ _ e1 hab
          unfold lessB at e2
          rw [e2] at this; cases this)
theorem sorted_weak (l : List Label) : (sorted l).Pairwise Weak := by
  have h : ∀ (l acc : List Label), acc.Pairwise Weak → (l.foldl (fun a x => ins x a) acc).Pairwise Weak := by
    intro l
    induction l with
    | nil => intro acc h; exact h
    | cons a r ih => intro acc h; rw [List.foldl_cons]; exact ih _ (ins_weak h)
  exact h l [] List.Pairwise.nil
/-- A list that holds the same labels in order: good exactly where the document's is, and then that one. -/
theorem any_sorted {l d : List Label} (hp : List.Perm d l) (hw : d.Pairwise Weak) : (LabelsP d ↔ LabelsP (sorted l)) ∧ (LabelsP d → d = sorted l) := by
  have hp2 : List.Perm d (sorted l) := hp.trans (sorted_perm l).symm
  have h1 : LabelsP d → d = sorted l := fun h => uniq (labels_strict h) (sorted_weak l) hp2
  refine ⟨⟨fun h => by rw [← h1 h]; exact h, fun h => ?_⟩, h1⟩
  rw [← uniq (labels_strict h) hw hp2.symm]
  exact h
theorem sort_any_yes {l d : List Label} (hp : List.Perm d l) (hw : d.Pairwise Weak) (h : LabelsP d) : sortF l = (d, true) := by
  have e := (any_sorted hp hw).2 h
  subst e
  exact sort_yes (by have := h.1; rw [sorted_length] at this; exact this) h
theorem sort_any_no {l d : List Label} (hp : List.Perm d l) (hw : d.Pairwise Weak) (h : ¬ LabelsP d) : sortF l = (l, false) :=
  sort_no fun h2 => h ((any_sorted hp hw).1.2 h2.2)
end Go.Proofs.YthpgbmglgmjjhaaDoor.lab
