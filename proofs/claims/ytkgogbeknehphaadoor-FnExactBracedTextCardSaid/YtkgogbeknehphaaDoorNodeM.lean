/- Plain mathematics: one tree's own fields are right, by its kind. -/
import Derived.Test.YtkgogbeknehphaaDoorGTree
import Derived.Test.YtkgogbeknehphaaDoorTrShapeS
import Derived.Test.YtkgogbeknehphaaDoorTrFldI
namespace Go.Proofs.YtkgogbeknehphaaDoor.tree
open Go Go.RowKit
set_option linter.unusedVariables false

theorem dec_eq {p : Prop} {b : Bool} (h : p ↔ b = true) : dec p = b := by
  cases b with
  | true => exact dec_yes (h.2 rfl)
  | false => exact dec_no (fun hp => by cases h.1 hp)
theorem text_empty : TextOk ⟨#[]⟩ := ⟨by decide, by decide⟩
theorem keys_none : KeysOk [] := fun i hi => by simp at hi
theorem size_zero {s : ByteArray} (h : ¬ 0 < s.size) : s = ⟨#[]⟩ := by
  apply ByteArray.ext
  apply Array.eq_empty_of_size_eq_zero
  have : s.data.size = s.size := rfl
  omega
def emp : ByteArray := ⟨#[]⟩
theorem node_1 (fl : Bool) (n : Int) (s : ByteArray) (ks : List ByteArray) (kids : List T) : dec (Node (.mk 1 fl n s ks kids)) = sameF (.mk 1 false 0 ⟨#[]⟩ [] []) (.mk 1 fl n s ks kids) := by
  refine dec_eq ?_
  unfold Node Fit sameF
  rw [decide_eq_true_iff]
  constructor
  · rintro ⟨⟨_, _, h1, h2, h3, h4, h5, _⟩, _, _⟩
    have e1 : fl = false := by cases fl with
      | false => rfl
      | true => have := h1 rfl; omega
    have e2 : n = 0 := by
      by_cases h : n = 0
      · exact h
      · have := h2 h; omega
    have e3 : s = ⟨#[]⟩ := size_zero (fun h => by have := h3 h; omega)
    have e4 : ks = [] := List.eq_nil_of_length_eq_zero (by by_cases h : 0 < ks.length; · have := h4 h; omega
                                                           · omega)
    have e5 : kids.length = 0 := by by_cases h : 0 < kids.length; · have := h5 h; omega
                                    · omega
    subst e1 e2 e3 e4
    exact ⟨rfl, rfl, rfl, rfl, rfl, e5.symm⟩
  · rintro ⟨_, rfl, rfl, rfl, rfl, h⟩
    have h : kids.length = 0 := h.symm
    exact ⟨⟨by omega, by omega, by simp, by simp, fun h => absurd h (by decide), by simp, by omega, by omega⟩, text_empty, keys_none⟩
theorem node_2 (fl : Bool) (n : Int) (s : ByteArray) (ks : List ByteArray) (kids : List T) : dec (Node (.mk 2 fl n s ks kids)) = sameF (.mk 2 fl 0 ⟨#[]⟩ [] []) (.mk 2 fl n s ks kids) := by
  refine dec_eq ?_
  unfold Node Fit sameF
  rw [decide_eq_true_iff]
  constructor
  · rintro ⟨⟨_, _, h1, h2, h3, h4, h5, _⟩, _, _⟩
    have e2 : n = 0 := by
      by_cases h : n = 0
      · exact h
      · have := h2 h; omega
    have e3 : s = ⟨#[]⟩ := size_zero (fun h => by have := h3 h; omega)
    have e4 : ks = [] := List.eq_nil_of_length_eq_zero (by by_cases h : 0 < ks.length; · have := h4 h; omega
                                                           · omega)
    have e5 : kids.length = 0 := by by_cases h : 0 < kids.length; · have := h5 h; omega
                                    · omega
    subst e2 e3 e4
    exact ⟨rfl, rfl, rfl, rfl, rfl, e5.symm⟩
  · rintro ⟨_, _, rfl, rfl, rfl, h⟩
    have h : kids.length = 0 := h.symm
    exact ⟨⟨by omega, by omega, by simp, by simp, fun h => absurd h (by decide), by simp, by omega, by omega⟩, text_empty, keys_none⟩
theorem node_3 (fl : Bool) (n : Int) (s : ByteArray) (ks : List ByteArray) (kids : List T) : dec (Node (.mk 3 fl n s ks kids)) = sameF (.mk 3 false n ⟨#[]⟩ [] []) (.mk 3 fl n s ks kids) := by
  refine dec_eq ?_
  unfold Node Fit sameF
  rw [decide_eq_true_iff]
  constructor
  · rintro ⟨⟨_, _, h1, h2, h3, h4, h5, _⟩, _, _⟩
    have e1 : fl = false := by cases fl with
      | false => rfl
      | true => have := h1 rfl; omega
    have e3 : s = ⟨#[]⟩ := size_zero (fun h => by have := h3 h; omega)
    have e4 : ks = [] := List.eq_nil_of_length_eq_zero (by by_cases h : 0 < ks.length; · have := h4 h; omega
                                                           · omega)
    have e5 : kids.length = 0 := by by_cases h : 0 < kids.length; · have := h5 h; omega
                                    · omega
    subst e1 e3 e4
    exact ⟨rfl, rfl, rfl, rfl, rfl, e5.symm⟩
  · rintro ⟨_, rfl, _, rfl, rfl, h⟩
    have h : kids.length = 0 := h.symm
    exact ⟨⟨by omega, by omega, by simp, by simp, fun h => absurd h (by decide), by simp, by omega, by omega⟩, text_empty, keys_none⟩
theorem node_4 (fl : Bool) (n : Int) (s : ByteArray) (ks : List ByteArray) (kids : List T) : dec (Node (.mk 4 fl n s ks kids)) = (sameF (.mk 4 false 0 s [] []) (.mk 4 fl n s ks kids) && dec (TextOk s)) := by
  refine dec_eq ?_
  unfold Node Fit sameF
  rw [Bool.and_eq_true, decide_eq_true_iff]
  constructor
  · rintro ⟨⟨_, _, h1, h2, h3, h4, h5, _⟩, ht, _⟩
    have e1 : fl = false := by cases fl with
      | false => rfl
      | true => have := h1 rfl; omega
    have e2 : n = 0 := by
      by_cases h : n = 0
      · exact h
      · have := h2 h; omega
    have e4 : ks = [] := List.eq_nil_of_length_eq_zero (by by_cases h : 0 < ks.length; · have := h4 h; omega
                                                           · omega)
    have e5 : kids.length = 0 := by by_cases h : 0 < kids.length; · have := h5 h; omega
                                    · omega
    subst e1 e2 e4
    exact ⟨⟨rfl, rfl, rfl, rfl, rfl, e5.symm⟩, dec_yes ht⟩
  · rintro ⟨⟨_, rfl, rfl, _, rfl, h⟩, ht⟩
    have h : kids.length = 0 := h.symm
    have ht : TextOk s := by
      by_cases h2 : TextOk s
      · exact h2
      · rw [dec_no h2] at ht; cases ht
    exact ⟨⟨by omega, by omega, by simp, by simp, by simp, by simp, by omega, by omega⟩, ht, keys_none⟩
theorem node_5 (fl : Bool) (n : Int) (s : ByteArray) (ks : List ByteArray) (kids : List T) : dec (Node (.mk 5 fl n s ks kids)) = sameF (.mk 5 false 0 ⟨#[]⟩ [] kids) (.mk 5 fl n s ks kids) := by
  refine dec_eq ?_
  unfold Node Fit sameF
  rw [decide_eq_true_iff]
  constructor
  · rintro ⟨⟨_, _, h1, h2, h3, h4, h5, _⟩, _, _⟩
    have e1 : fl = false := by cases fl with
      | false => rfl
      | true => have := h1 rfl; omega
    have e2 : n = 0 := by
      by_cases h : n = 0
      · exact h
      · have := h2 h; omega
    have e3 : s = ⟨#[]⟩ := size_zero (fun h => by have := h3 h; omega)
    have e4 : ks = [] := List.eq_nil_of_length_eq_zero (by by_cases h : 0 < ks.length; · have := h4 h; omega
                                                           · omega)
    subst e1 e2 e3 e4
    exact ⟨rfl, rfl, rfl, rfl, rfl, rfl⟩
  · rintro ⟨_, rfl, rfl, rfl, rfl, _⟩
    exact ⟨⟨by omega, by omega, by simp, by simp, fun h => absurd h (by decide), by simp, by omega, by omega⟩, text_empty, keys_none⟩
theorem node_6 (fl : Bool) (n : Int) (s : ByteArray) (ks : List ByteArray) (kids : List T) : dec (Node (.mk 6 fl n s ks kids)) = (sameF (.mk 6 false 0 ⟨#[]⟩ ks kids) (.mk 6 fl n s ks kids) && (decide (ks.length = kids.length) && dec (KeysOk ks))) := by
  refine dec_eq ?_
  unfold Node Fit sameF
  rw [Bool.and_eq_true, Bool.and_eq_true, decide_eq_true_iff, decide_eq_true_iff]
  constructor
  · rintro ⟨⟨_, _, h1, h2, h3, h4, h5, h6⟩, _, hk⟩
    have e1 : fl = false := by cases fl with
      | false => rfl
      | true => have := h1 rfl; omega
    have e2 : n = 0 := by
      by_cases h : n = 0
      · exact h
      · have := h2 h; omega
    have e3 : s = ⟨#[]⟩ := size_zero (fun h => by have := h3 h; omega)
    subst e1 e2 e3
    exact ⟨⟨rfl, rfl, rfl, rfl, rfl, rfl⟩, h6 rfl, dec_yes hk⟩
  · rintro ⟨⟨_, rfl, rfl, rfl, _, _⟩, hl, hk⟩
    have hk : KeysOk ks := by
      by_cases h2 : KeysOk ks
      · exact h2
      · rw [dec_no h2] at hk; cases hk
    exact ⟨⟨by omega, by omega, by simp, by simp, fun h => absurd h (by decide), by simp, by omega, fun _ => hl⟩, text_empty, hk⟩
theorem node_no {k : Int} (fl : Bool) (n : Int) (s : ByteArray) (ks : List ByteArray) (kids : List T) (h : ¬ (1 ≤ k ∧ k ≤ 6)) : dec (Node (.mk k fl n s ks kids)) = false :=
  dec_no (fun hn => h ⟨hn.1.1, hn.1.2.1⟩)
end Go.Proofs.YtkgogbeknehphaaDoor.tree
