/- Merged: SplB MaxL BigL NmI. -/
import Derived.Test.YtdgedclpaplgoaaDoorGA1
import Derived.Lib.Split
import Derived.Lib.CutLaws
import Derived.Test.YtdgedclpaplgoaaDoorGA0
import Derived.Test.YtdgedclpaplgoaaDoorShelf
import Derived.Test.YtdgedclpaplgoaaDoorRows
import Derived.ProofKit
import Derived.OpenShut
namespace Go.Proofs.YtdgedclpaplgoaaDoor.cut
open Go Go.RowKit
set_option linter.unusedVariables false

theorem index_one (c : UInt8) : ∀ l : List UInt8, (Lib.index l [c] = -1 ∧ ∀ b ∈ l, b ≠ c) ∨ (∃ i : Nat, Lib.index l [c] = i ∧ i < l.length ∧ l = l.take i ++ c :: l.drop (i + 1) ∧ ∀ b ∈ l.take i, b ≠ c)
  | [] => .inl ⟨by simp [Lib.index], by simp⟩
  | b :: r => by
    by_cases h : b = c
    · subst h
      exact .inr ⟨0, by simp [Lib.index, List.isPrefixOf], by simp, by simp, by simp⟩
    · have hp : ([c] : List UInt8).isPrefixOf (b :: r) = false := by
        simp only [List.isPrefixOf, Bool.and_true, beq_eq_false_iff_ne]
        exact fun e => h e.symm
      rcases index_one c r with ⟨h1, h2⟩ | ⟨i, h1, h2, h3, h4⟩
      · refine .inl ⟨?_, ?_⟩
        · unfold Lib.index; rw [hp, h1]; rfl
        · intro x hx
          rcases List.mem_cons.1 hx with rfl | hx
          · exact h
          · exact h2 x hx
      · refine .inr ⟨i + 1, ?_, by simp; omega, ?_, ?_⟩
        · unfold Lib.index; rw [hp, h1]
          have : ((i : Int) == -1) = false := by rw [beq_eq_false_iff_ne]; omega
          simp [this]
        · rw [List.take_succ_cons, List.cons_append, List.drop_succ_cons, ← h3]
        · intro x hx
          rw [List.take_succ_cons] at hx
          rcases List.mem_cons.1 hx with rfl | hx
          · exact h
          · exact h4 x hx
theorem ne_int {c : UInt8} {x : List UInt8} (h : ∀ b ∈ x, b ≠ c) : ∀ b ∈ x, (b.toNat : Int) ≠ (c.toNat : Int) := fun b hb e => h b hb (UInt8.toNat_inj.1 (by omega))
theorem splitK_one (c : UInt8) : ∀ (k : Nat) (l : List UInt8), Lib.count l [c] ≤ k → Lib.splitK [c] 0 k l = splitL (c.toNat : Int) l
  | 0, l, h => by
    rcases index_one c l with ⟨h1, h2⟩ | ⟨i, h1, h2, h3, h4⟩
    · rw [split_no l (ne_int h2)]; rfl
    · rw [Lib.count_hit (by simp) h1] at h; omega
  | k + 1, l, h => by
    rcases index_one c l with ⟨h1, h2⟩ | ⟨i, h1, h2, h3, h4⟩
    · rw [split_no l (ne_int h2), Lib.splitK, if_pos (by rw [h1]; rfl)]
    · rw [Lib.count_hit (by simp) h1] at h
      have hne : ¬ ((Lib.index l [c] == -1) = true) := by rw [h1]; intro e; have := beq_iff_eq.1 e; omega
      rw [Lib.splitK, if_neg hne, h1]
      have ih := splitK_one c k (l.drop (i + 1)) (by simp at h; omega)
      have e2 : splitL (c.toNat : Int) l = l.take i :: splitL (c.toNat : Int) (l.drop (i + 1)) := by
        have e3 := split_cons (c := (c.toNat : Int)) (b := c) rfl (l.take i) (l.drop (i + 1)) (ne_int h4)
        rw [← h3] at e3
        exact e3
      rw [e2]
      simp only [Int.toNat_natCast, Nat.add_zero, List.length_cons, List.length_nil, Nat.zero_add]
      rw [ih]
theorem splitK_len (c : UInt8) : ∀ (k : Nat) (l : List UInt8), Lib.count l [c] = k → (Lib.splitK [c] 0 k l).length = k + 1
  | 0, l, h => rfl
  | k + 1, l, h => by
    rcases index_one c l with ⟨h1, h2⟩ | ⟨i, h1, h2, h3, h4⟩
    · rw [Lib.count_miss h1] at h; omega
    · rw [Lib.count_hit (by simp) h1] at h
      have hne : ¬ ((Lib.index l [c] == -1) = true) := by rw [h1]; intro e; have := beq_iff_eq.1 e; omega
      rw [Lib.splitK, if_neg hne, h1]
      have ih := splitK_len c k (l.drop (i + 1)) (by simp at h; omega)
      simp only [Int.toNat_natCast, List.length_cons, List.length_nil, Nat.zero_add]
      rw [ih]
theorem split_one (c : UInt8) (l : List UInt8) : Lib.split l [c] = splitL (c.toNat : Int) l := splitK_one c _ l (Nat.le_refl _)
/-- What strings.Cut gives at one byte: where it stands, the parts before and behind its first place. -/
theorem cut_one (c : UInt8) (l : List UInt8) : ((∀ b ∈ l, b ≠ c) ∧ Lib.cut l [c] = (l, [], false)) ∨ ∃ x y, l = x ++ c :: y ∧ (∀ b ∈ x, b ≠ c) ∧ Lib.cut l [c] = (x, y, true) := by
  rcases index_one c l with ⟨h1, h2⟩ | ⟨i, h1, h2, h3, h4⟩
  · left
    refine ⟨h2, ?_⟩
    unfold Lib.cut
    rw [h1, if_neg (by omega)]
  · right
    refine ⟨l.take i, l.drop (i + 1), h3, h4, ?_⟩
    unfold Lib.cut
    rw [h1, if_pos (by omega)]
    simp
/-- A text of one more byte of the kind is cut in more than one part. -/
theorem split_len {c : Int} : ∀ (l : List UInt8) (b : UInt8), b ∈ l → (b.toNat : Int) = c → 2 ≤ (splitL c l).length
  | [], b, h, _ => by cases h
  | a :: r, b, h, hb => by
    have hpos : ∀ l : List UInt8, 0 < (splitL c l).length := by
      intro l
      cases l with
      | nil => simp [splitL]
      | cons x y =>
        rw [splitL]
        split
        · simp
        · split <;> simp
    rw [splitL]
    by_cases ha : (a.toNat : Int) = c
    · rw [if_pos ha]
      have := hpos r
      simp; omega
    · rw [if_neg ha]
      rcases List.mem_cons.1 h with rfl | h
      · exact absurd hb ha
      · have ih := split_len r b h hb
        cases hs : splitL c r with
        | nil => rw [hs] at ih; simp at ih
        | cons x y => rw [hs] at ih; simpa using ih
end Go.Proofs.YtdgedclpaplgoaaDoor.cut
namespace Go.Proofs.YtdgedclpaplgoaaDoor.line
open Go.ChangeShapes Go.WideShapes Go.ChangeAt Go.RowKit
set_option linter.unusedVariables false

/-- What strings.Index reads of memory: an int. -/
def MaxL (w : World) : Prop := ∃ m : Int, w.cell? ⟨0, 0, none⟩ = some (.int .i64 m)
theorem MaxL.below {w w' : World} (h : MaxL w) (hb : Below w.heap.size w w') : MaxL w' := by
  obtain ⟨m, h⟩ := h
  exact ⟨m, (hb.cell (World.block_lt_of_cell? _ _ h)).trans h⟩
theorem MaxL.of_shaped {w : World} (h : w.ShapedOpen Tryd.prog) : MaxL w := Tryd.laysM143.s1_3 w h
end Go.Proofs.YtdgedclpaplgoaaDoor.line
namespace Go.Proofs.YtdgedclpaplgoaaDoor
open Go Go.RowKit
theorem IsRow.below {k : IntKind} {w w' : World} {a : Option Addr} {len cap : Nat} {zs : List Int} (h : IsRow k w a len cap zs) (hb : Below w.heap.size w w') : IsRow k w' a len cap zs := by
  rcases h with h | ⟨x, rfl, h1, h2, h3, h4, h5⟩
  · exact .inl h
  · exact .inr ⟨x, rfl, h1, h2, h3, fun i hi => (hb.cell (p := x.add i) (World.block_lt_of_cell? w _ (h4 i hi))).trans (h4 i hi), h5⟩
end Go.Proofs.YtdgedclpaplgoaaDoor
namespace Go.Proofs.YtdgedclpaplgoaaDoor.lawBig
open Go.ChangeShapes Go.WideShapes Go.ChangeAt Go.RowKit
set_option linter.unusedVariables false

theorem any (A : Option Addr) (len cap : Nat) (w : World) (h : len ≤ maxLen) :
    Calls Tryd.prog 7 #[.slice A len cap] w fun e w' => e = .returned (.bool (decide (1048576 < (len : Int)))) ∧ w = w' := by
  unfold maxLen at h
  go_enter Tryd.func7, Tryd.ntmps7
  go_wp2_with fail
  go_ret
  exact ⟨rfl, rfl⟩
end Go.Proofs.YtdgedclpaplgoaaDoor.lawBig
namespace Go.Proofs.YtdgedclpaplgoaaDoor.lab
open Go.ChangeShapes Go.WideShapes Go.ChangeAt Go.RowKit
set_option linter.unusedVariables false

theorem impl_name (s : ByteArray) (w : World) (hs : s.size ≤ 9223372036854775807) :
    Calls Tryd.prog 12 #[.string s] w fun e w' => e = .returned (.bool (yes (NameP s))) ∧ Below w.heap.size w w' := by
  have H := Lib.hid (impl_id s 20 ⟨lowL.toArray⟩ ⟨#[45]⟩ w hs (by decide) (by decide) (by decide) (ascii_of_all (by decide)) (ascii_of_all (by decide)))
  have e : yes (IdP 20 (⟨lowL.toArray⟩ : ByteArray).data.toList (⟨#[45]⟩ : ByteArray).data.toList s) = yes (NameP s) := by
    congr 1; exact propext (name_iff s).symm
  rw [e] at H
  clear e
  generalize yes (NameP s) = R at H
  unfold lowL at H
  go_enter Tryd.func12, Tryd.ntmps12
  go_wp2_with fail
  refine H.out.mono ?_
  rintro e w1 ⟨rfl, hb⟩
  go_wp2_with fail
  go_ret
  exact ⟨rfl, hb⟩
end Go.Proofs.YtdgedclpaplgoaaDoor.lab
