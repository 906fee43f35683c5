/- strings.Join of the parts. Printed by gen/gen_sayi.py. -/
import Derived.Test.YtkgogbeknehphaaDoorSayF
import Derived.Test.YtkgogbeknehphaaDoorShelf
import Derived.Test.YtkgogbeknehphaaDoorTrOkI
import Derived.Test.YtkgogbeknehphaaDoorDecimalI
import Derived.Test.YtkgogbeknehphaaDoorQuoteI
import Derived.Deep.Cut
namespace Go.Proofs.YtkgogbeknehphaaDoor.say
open Go.ChangeShapes Go.WideShapes Go.ChangeAt Go.RowKit tree
open rune (Tabs)
open decimal (Pow)
set_option linter.unusedVariables false

def by_ (l : List UInt8) : ByteArray := ⟨l.toArray⟩
noncomputable def items (k : Int) (ks : List ByteArray) (kids : List T) : List (List UInt8) := if k = 6 then List.zipWith pairL ks (kids.map say) else kids.map say
theorem join_intercalate : ∀ l : List (List UInt8), Lib.join l [44] = joinC l
  | [] => rfl
  | [x] => by simp [Lib.join, List.intercalate, joinC]
  | x :: y :: r => by
    have ih := join_intercalate (y :: r)
    unfold Lib.join List.intercalate at ih ⊢
    rw [List.intersperse_cons_cons, List.flatten_cons, List.flatten_cons, ih]
    simp [joinC]
theorem join_bytes (l : List (List UInt8)) : Lib.join ((l.map by_).map (·.data.toList)) (⟨#[44]⟩ : ByteArray).data.toList = joinC l := by
  have e : (l.map by_).map (·.data.toList) = l := by
    rw [List.map_map]
    exact List.map_id'' (fun x => rfl) l
  rw [e]
  exact join_intercalate l
theorem length_le_sizes : ∀ l : List T, l.length ≤ sizes l
  | [] => Nat.zero_le _
  | t :: r => by
    have := length_le_sizes r
    rw [sizes, List.length_cons]
    obtain ⟨k, f, n, s, ks, kids⟩ := t
    rw [size]
    omega
theorem join_any (L : List (List UInt8)) (A : Option Addr) (c : Nat) (w : World) (hc : L.length ≤ c) (hrd : Rd w A L.length (scells (L.map by_))) (hN : L.length ≤ 140737488355328) (hlen : (joinC L).length ≤ 140737488355328) :
    Calls Tryd.prog 29 #[.slice A L.length c, .string ⟨#[44]⟩] w fun e w' => e = .returned (.string (by_ (joinC L))) ∧ Below w.heap.size w w' := by
  cases L with
  | nil => exact (Tryd.strings_Join_none A c ⟨#[44]⟩ w).mono fun e w' h => ⟨h.1, by rw [h.2]; exact Below.refl _ _⟩
  | cons x r =>
    obtain ⟨g, o, rfl, hg, hcc⟩ := hrd.2 (by simp)
    have h := Tryd.strings_Join g o c ((x :: r).map by_) ⟨#[44]⟩ w (fun j y hy => hcc j (by have := (List.getElem?_eq_some_iff.1 hy).1; simpa using this) _ (by simp only [scells, List.getElem?_map] at hy ⊢; rw [hy]; rfl)) hg (by rw [List.length_map]; exact hN) (by rw [List.length_map]; exact hc) (by rw [join_bytes]; exact hlen)
    rw [join_bytes, List.length_map] at h
    exact h
theorem word_true : (⟨(Lib.formatBool true).toArray⟩ : ByteArray) = by_ trueL := by decide
theorem word_false : (⟨(Lib.formatBool false).toArray⟩ : ByteArray) = by_ falseL := by decide
theorem one_of_lie {w : World} {f : Nat} {u : Value} {d : C} (h : Lies w f u d) : u.oneCell' = true := by
  match f, d, h with
  | f + 1, .int k n, h => obtain ⟨rfl, _⟩ := h; rfl
  | f + 1, .bool b, h => obtain rfl := (show u = .bool b from h); rfl
  | f + 1, .str s, h => obtain ⟨rfl, _⟩ := h; rfl
  | f + 1, .sl size n cells, h => obtain ⟨A, c, rfl, _⟩ := h; rfl
theorem one_of_lies {w : World} {f : Nat} {vs : List Value} {ds : List C} (h : LiesS w f vs ds) : ∀ u ∈ vs, u.oneCell' = true := fun u hu => by
  obtain ⟨i, hi, rfl⟩ := List.getElem_of_mem hu
  exact one_of_lie (h.2 i _ _ (List.getElem?_eq_getElem hi) (List.getElem?_eq_getElem (by rw [← h.1]; exact hi)))
def KidsOut (w : World) (l : List (List UInt8)) (e : Ending) (w' : World) : Prop :=
  ∃ A c, e = .returned (.slice A l.length c) ∧ l.length ≤ c ∧ Rd w' A l.length (scells (l.map by_)) ∧ Below w.heap.size w w'
def OfI (f : Nat) : Prop := ∀ (t : T) (vs : List Value) (w : World), LiesS w f vs (row t) → Shape t → (say t).length ≤ 1099511627776 → size t ≤ 1099511627776 → Pow w → Tabs w →
    Calls Tryd.prog 16 #[.agg vs.toArray] w fun e w' => e = .returned (.string (by_ (say t))) ∧ Below w.heap.size w w'
end Go.Proofs.YtkgogbeknehphaaDoor.say
