/- Cutting a text, as lists. -/
import Derived.Test.YtjcfaepklakpkaaDoorCutM
namespace Go.Proofs.YtjcfaepklakpkaaDoor.cut
open Go Go.RowKit
set_option linter.unusedVariables false

def splitL (c : Int) : List UInt8 → List (List UInt8)
  | [] => [[]]
  | b :: r => if (b.toNat : Int) = c then [] :: splitL c r else match splitL c r with
    | [] => [[b]]
    | h :: t => (b :: h) :: t
theorem split_no {c : Int} : ∀ (x : List UInt8), (∀ b ∈ x, (b.toNat : Int) ≠ c) → splitL c x = [x]
  | [], _ => rfl
  | b :: r, h => by
    rw [splitL, if_neg (h b List.mem_cons_self), split_no r fun y hy => h y (List.mem_cons_of_mem _ hy)]
theorem split_cons {c : Int} {b : UInt8} (hb : (b.toNat : Int) = c) : ∀ (x r : List UInt8), (∀ y ∈ x, (y.toNat : Int) ≠ c) → splitL c (x ++ b :: r) = x :: splitL c r
  | [], r, _ => by rw [List.nil_append, splitL, if_pos hb]
  | y :: x, r, h => by
    rw [List.cons_append, splitL, if_neg (h y List.mem_cons_self), split_cons hb x r fun z hz => h z (List.mem_cons_of_mem _ hz)]
def mk (x : List UInt8) : ByteArray := ⟨x.toArray⟩
theorem mk_ex (s : ByteArray) (a b : Nat) : s.extract a b = mk ((s.data.toList.drop a).take (b - a)) := by
  apply ByteArray.ext
  apply Array.ext'
  rw [ByteArray.data_extract, Array.toList_extract, List.extract_eq_take_drop]
  rfl
/-- What is behind k bytes: no byte of the kind since the open part began, and the rest still to be cut. -/
theorem cs_inv (s : ByteArray) (c : Int) : ∀ k, k ≤ s.size → (∀ i, (cs s c k).1 ≤ i → i < k → at_ s i ≠ c) ∧ (cs s c k).2 ++ (splitL c (s.data.toList.drop (cs s c k).1)).map mk = (splitL c s.data.toList).map mk := by
  intro k
  induction k with
  | zero => intro _; exact ⟨fun i _ h => by omega, by simp [cs]⟩
  | succ k ih =>
    intro hk
    obtain ⟨h1, h2⟩ := ih (by omega)
    have hb := (cs_bd s c k).1
    by_cases hc : at_ s k = c
    · have e : cs s c (k + 1) = (k + 1, (cs s c k).2 ++ [s.extract (cs s c k).1 k]) := cs_add rfl (.inr hc)
      rw [e]
      refine ⟨fun i h3 h4 => by simp only at h3; omega, ?_⟩
      have hlen : s.data.toList.length = s.size := by rw [Array.length_toList]; rfl
      have hkl : k < s.data.toList.length := by omega
      have hd : s.data.toList.drop (cs s c k).1 = (s.data.toList.drop (cs s c k).1).take (k - (cs s c k).1) ++ s.data.toList[k] :: s.data.toList.drop (k + 1) := by
        have h5 := (List.take_append_drop (k - (cs s c k).1) (s.data.toList.drop (cs s c k).1)).symm
        rw [List.drop_drop, show (cs s c k).1 + (k - (cs s c k).1) = k by omega, List.drop_eq_getElem_cons hkl] at h5
        exact h5
      have hat : ∀ i (h : i < s.data.toList.length), (s.data.toList[i].toNat : Int) = at_ s i := fun i h => by
        unfold at_
        rw [List.getD_eq_getElem?_getD, List.getElem?_eq_getElem h]
        rfl
      rw [hd, split_cons (by rw [hat k hkl]; exact hc) _ _ (fun y hy => by
        obtain ⟨i, hi, rfl⟩ := List.getElem_of_mem hy
        rw [List.length_take, List.length_drop] at hi
        rw [List.getElem_take, List.getElem_drop, hat]
        exact h1 _ (by omega) (by omega)), List.map_cons] at h2
      rw [← h2, mk_ex]
      simp
    · rw [show cs s c (k + 1) = cs s c k from cs_no rfl (by omega) hc]
      refine ⟨fun i h3 h4 => ?_, h2⟩
      by_cases e : i = k
      · subst e; exact hc
      · exact h1 i h3 (by omega)
theorem cut_is (s : ByteArray) (c : Int) : cutF s c = (splitL c s.data.toList).map mk := by
  obtain ⟨h1, h2⟩ := cs_inv s c s.size (Nat.le_refl _)
  have hb := (cs_bd s c s.size).1
  have hlen : s.data.toList.length = s.size := by rw [Array.length_toList]; rfl
  unfold cutF
  rw [show cs s c (s.size + 1) = (s.size + 1, (cs s c s.size).2 ++ [s.extract (cs s c s.size).1 s.size]) from cs_add rfl (.inl rfl)]
  rw [split_no (s.data.toList.drop (cs s c s.size).1) (fun y hy => by
    obtain ⟨i, hi, rfl⟩ := List.getElem_of_mem hy
    rw [List.length_drop] at hi
    rw [List.getElem_drop]
    have h3 := h1 ((cs s c s.size).1 + i) (by omega) (by omega)
    unfold at_ at h3
    rw [List.getD_eq_getElem?_getD, List.getElem?_eq_getElem (by omega)] at h3
    exact h3)] at h2
  rw [← h2, mk_ex, List.take_of_length_le (by rw [List.length_drop]; omega)]
  rfl
end Go.Proofs.YtjcfaepklakpkaaDoor.cut
