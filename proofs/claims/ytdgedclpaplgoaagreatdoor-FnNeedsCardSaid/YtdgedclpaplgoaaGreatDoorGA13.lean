/- Merged: FlatLab AppOwn. -/
import Derived.Test.YtdgedclpaplgoaaGreatDoorGA5
import Derived.Test.YtdgedclpaplgoaaGreatDoorGA4
import Derived.Test.YtdgedclpaplgoaaGreatDoorGA19
namespace Go.Proofs.YtdgedclpaplgoaaGreatDoor.ty
open Go Go.RowKit
set_option linter.unusedVariables false

def Label.cells (x : Label) : List Value := [.string x.key, .string x.value]
def lvals (l : List Label) : List Value := l.flatMap Label.cells
theorem lvals_length (l : List Label) : (lvals l).length = l.length * 2 := flat_length' (f := Label.cells) (sz := 2) (fun _ => rfl) l
theorem lvals_append (a b : List Label) : lvals (a ++ b) = lvals a ++ lvals b := by unfold lvals; rw [List.flatMap_append]
theorem lvals_one (x : Label) : lvals [x] = x.cells := by simp [lvals]
theorem lvals_ones (l : List Label) : ∀ u ∈ lvals l, u.oneCell' = true := by
  intro u hu
  obtain ⟨x, _, hx⟩ := List.mem_flatMap.1 hu
  simp [Label.cells] at hx
  rcases hx with rfl | rfl <;> rfl
theorem lvals_take (l : List Label) (k : Nat) : (lvals l).take (k * 2) = lvals (l.take k) := by
  by_cases h : k ≤ l.length
  · have e : lvals l = lvals (l.take k) ++ lvals (l.drop k) := by rw [← lvals_append, List.take_append_drop]
    have e2 : k * 2 = (lvals (l.take k)).length := by rw [lvals_length, List.length_take]; omega
    rw [e, e2, List.take_left]
  · rw [List.take_of_length_le (by rw [lvals_length]; omega), List.take_of_length_le (by omega)]
theorem lvals_drop (l : List Label) (k : Nat) : (lvals l).drop (k * 2) = lvals (l.drop k) := by
  by_cases h : k ≤ l.length
  · have e : lvals l = lvals (l.take k) ++ lvals (l.drop k) := by rw [← lvals_append, List.take_append_drop]
    have e2 : k * 2 = (lvals (l.take k)).length := by rw [lvals_length, List.length_take]; omega
    rw [e, e2, List.drop_left]
  · rw [List.drop_of_length_le (by rw [lvals_length]; omega), List.drop_of_length_le (by omega)]; rfl
/-- The elements of a slice that came in. -/
theorem rdk_of_els {w : World} {f : Nat} {A : Option Addr} {l : List Label} (h : ElsAt Label.row w f A l 2) : RdK w A l.length 2 (lvals l) ∧ ∀ x ∈ l, x.Wf := by
  refine ⟨⟨lvals_length l, fun hm => ?_⟩, fun x hx => ?_⟩
  · obtain ⟨g, o, hA, hg, hc⟩ := h hm
    refine ⟨g, o, hA, hg, fun j u hu => ?_⟩
    have hj : j < l.length * 2 := by
      have := (List.getElem?_eq_some_iff.1 hu).1
      rwa [lvals_length] at this
    have e : j / 2 * 2 + j % 2 = j := by omega
    have hi : j / 2 < l.length := by omega
    obtain ⟨us, h1, h2, h3⟩ := hc (j / 2) _ (List.getElem?_eq_getElem hi)
    obtain ⟨rfl, _⟩ := Label.opened h3
    rw [← e] at hu
    unfold lvals at hu
    rw [flat_get' (f := Label.cells) (sz := 2) (fun _ => rfl) l (j / 2) (j % 2) _ (List.getElem?_eq_getElem hi) (by omega)] at hu
    have := h2 (j % 2) u hu
    rwa [Nat.add_assoc, e] at this
  · obtain ⟨i, hi, rfl⟩ := List.getElem_of_mem hx
    obtain ⟨g, o, hA, hg, hc⟩ := h (by omega)
    obtain ⟨us, h1, h2, h3⟩ := hc i _ (List.getElem?_eq_getElem hi)
    exact (Label.opened h3).2
theorem owns_lvals {w : World} {B f : Nat} : ∀ l : List Label, (∀ x ∈ l, x.Wf) → OwnS w B (f + 1) (lvals l) (l.flatMap Label.row) []
  | [], _ => OwnS.nil
  | x :: l, h => by
    have h1 := Label.owned (w := w) (B := B) (f := f) (h x List.mem_cons_self)
    have h2 := owns_lvals (w := w) (B := B) (f := f) l fun y hy => h y (List.mem_cons_of_mem _ hy)
    exact h1.append h2
/-- An own row of labels is an owned slice. -/
theorem own_lvals {w : World} {B : Nat} {e : TypeId} {v : Value} {l : List Label} (h : w.ownsRow B e 2 v l.length (lvals l)) (hw : ∀ x ∈ l, x.Wf) : ∃ F, Own w B 2 v (.sl 2 l.length (l.flatMap Label.row)) F ∧ F.Nodup ∧ ∀ x ∈ F, B ≤ x ∧ x < w.heap.size :=
  OwnRow.own ⟨lvals l, [], h, by rw [flat_length' Label.row_length], owns_lvals l hw, List.nodup_nil, fun x hx => by cases hx⟩
end Go.Proofs.YtdgedclpaplgoaaGreatDoor.ty
namespace Go.Proofs.YtdgedclpaplgoaaGreatDoor.lab
open Go Go.RowKit ty
/-- 'No more than' is 'not the other way less'. -/
theorem leq_not : ∀ a b : List UInt8, (Op.bytesLess a b || a == b) = !Op.bytesLess b a
  | [], [] => rfl
  | [], b :: y => by simp [Op.bytesLess]
  | a :: x, [] => by simp [Op.bytesLess]
  | a :: x, b :: y => by
    have ih := leq_not x y
    simp only [Op.bytesLess]
    by_cases h1 : a < b
    · have h2 : ¬ b < a := by rw [UInt8.lt_iff_toNat_lt] at h1 ⊢; omega
      have h3 : (b == a) = false := by rw [beq_eq_false_iff_ne]; rintro rfl; rw [UInt8.lt_iff_toNat_lt] at h1; omega
      simp [h1, h2, h3]
    · by_cases h2 : b < a
      · have h3 : (a == b) = false := by rw [beq_eq_false_iff_ne]; rintro rfl; rw [UInt8.lt_iff_toNat_lt] at h2; omega
        simp only [beq_eq_false_iff_ne] at h3
        simp [h1, h2, h3]
      · obtain rfl : a = b := by
          apply UInt8.toNat_inj.1
          rw [UInt8.lt_iff_toNat_lt] at h1 h2
          omega
        simp [h1]
        simpa using ih
/-- Where an insertion goes. -/
theorem ins_at {x : Label} {l : List Label} {k : Nat} (hk : k ≤ l.length) (h1 : ∀ q (h : q < k), lessB x.key (l[q]'(by omega)).key = false) (h2 : ∀ h : k < l.length, lessB x.key l[k].key = true) : ins x l = l.take k ++ x :: l.drop k := by
  have e : ∀ (l : List Label) (k : Nat), k ≤ l.length → (∀ q (h : q < k) (hl : q < l.length), lessB x.key l[q].key = false) → (∀ h : k < l.length, lessB x.key l[k].key = true) → l.takeWhile (fun y => !lessB x.key y.key) = l.take k ∧ l.dropWhile (fun y => !lessB x.key y.key) = l.drop k := by
    intro l
    induction l with
    | nil => intro k hk _ _; simp
    | cons a r ih =>
      intro k hk h1 h2
      cases k with
      | zero =>
        have h0 := h2 (by simp)
        simp at h0
        simp [h0]
      | succ k =>
        have h0 := h1 0 (by omega) (by simp)
        simp at h0
        have := ih k (by simpa using hk) (fun q h hl => by have := h1 (q + 1) (by omega) (by simpa using hl); simpa using this) (fun h => by have := h2 (by simpa using h); simpa using this)
        simp [h0, this.1, this.2]
  obtain ⟨e1, e2⟩ := e l k hk (fun q h _ => h1 q h) h2
  unfold ins
  rw [e1, e2]
theorem wf_sorted {l : List Label} (h : ∀ x ∈ l, x.Wf) : ∀ x ∈ sorted l, x.Wf := fun x hx => by
  rcases sorted_mem l [] hx with h1 | h1
  · exact h x h1
  · cases h1
end Go.Proofs.YtdgedclpaplgoaaGreatDoor.lab
namespace Go.Proofs.YtdgedclpaplgoaaGreatDoor.ty
open Go Go.RowKit
set_option linter.unusedVariables false

theorem rows_vals : ∀ (l : List Label) (m : Nat) (d : C), (l.flatMap Label.row)[m]? = some d → ∃ s, d = .str s ∧ (lvals l)[m]? = some (.string s)
  | [], m, d, h => by simp at h
  | x :: l, 0, d, h => by
    simp [Label.row] at h
    exact ⟨x.key, h.symm, by simp [lvals, Label.cells]⟩
  | x :: l, 1, d, h => by
    simp [Label.row] at h
    exact ⟨x.value, h.symm, by simp [lvals, Label.cells]⟩
  | x :: l, m + 2, d, h => by
    have h2 : (l.flatMap Label.row)[m]? = some d := by
      rw [List.flatMap_cons, List.getElem?_append_right (by simp [Label.row])] at h
      simpa [Label.row] using h
    obtain ⟨s, hs, hv⟩ := rows_vals l m d h2
    refine ⟨s, hs, ?_⟩
    unfold lvals at hv ⊢
    rw [List.flatMap_cons, List.getElem?_append_right (by simp [Label.cells])]
    simpa [Label.cells] using hv
theorem own_rowE {w : World} {B f : Nat} {v : Value} {l : List Label} {F : List Nat} (t0 : TypeId) (h : Own w B (f + 1) v (.sl 2 l.length (l.flatMap Label.row)) F) : ∃ e, w.ownsRow B e 2 v l.length (lvals l) := by
  obtain ⟨hl, ⟨rfl, hn, rfl⟩ | ⟨g, c, cur, e, Fs, rfl, h1, h2, h3, h4, hz, hF, h5, h6⟩⟩ := h
  · have : l = [] := List.eq_nil_of_length_eq_zero hn
    subst this
    exact ⟨t0, World.ownsRow_nil _ _ _ _⟩
  · refine ⟨e, lvals_length l, .inr ⟨g, c, cur, rfl, h3, h4, h1, h2, hz, ?_⟩⟩
    refine List.ext_getElem? fun m => ?_
    by_cases hm : m < l.length * 2
    · rw [List.getElem?_take_of_lt hm]
      have hd : m < (l.flatMap Label.row).length := by rw [hl]; exact hm
      obtain ⟨u, hu, ho⟩ := h6 m _ _ (List.getElem?_eq_getElem hd) (List.getElem?_eq_getElem (by omega))
      obtain ⟨s, hs, hv⟩ := rows_vals l m _ (List.getElem?_eq_getElem hd)
      rw [hs] at ho
      obtain ⟨rfl, _⟩ := ho.lies.str
      rw [hv, Array.getElem?_toList]
      exact hu
    · rw [List.getElem?_eq_none (by rw [List.length_take]; omega), List.getElem?_eq_none (by rw [lvals_length]; omega)]
end Go.Proofs.YtdgedclpaplgoaaGreatDoor.ty
