/- impl.treesIn and the function that it hands back: it visits the trees in a tree, each with its depth, in order; till a round says 'no more'. -/
import Derived.Test.YtmldigfghiofkaaDoorTreeL
import Derived.Test.YtmldigfghiofkaaDoorPreM
import Derived.Test.YtmldigfghiofkaaDoorRangeFn
import Derived.Test.YtmldigfghiofkaaDoorCellW
import Derived.Test.YtmldigfghiofkaaDoorCellA
import Derived.WalkSmall
import Derived.RangeFuncBox
import Derived.OwnWalkIn
import Derived.TacticsInMore
import Derived.LoopNIn
import Derived.LoopIn
import Derived.Sort.LoopGhostIn
import Derived.Test.YtmldigfghiofkaaDoorRows
import Derived.ProofKit
namespace Go.Proofs.YtmldigfghiofkaaDoor.tree
open Go.ChangeShapes Go.WideShapes Go.ChangeAt Go.RowKit Go.Shelf
set_option linter.unusedVariables false
attribute [local go_sem] Oper.semAt_some

/-- The stack's slices (top first) read as the lists of the plain stack; v0 is the one that holds t alone in memory of the iterator's own. -/
def Stk (w : World) (f : Nat) (v0 : Value) (t : T) : List Value → List (List T) → Prop
  | [], [] => True
  | v :: vs, l :: r => (Lies w (f + 1) v (.sl 6 l.length (rows l)) ∨ (v = v0 ∧ l = [t])) ∧ Stk w f v0 t vs r
  | _, _ => False
theorem Stk.length {w : World} {f : Nat} {v0 : Value} {t : T} : ∀ {vs : List Value} {st : List (List T)}, Stk w f v0 t vs st → vs.length = st.length
  | [], [], _ => rfl
  | _ :: _, _ :: _, h => by simp [Stk.length h.2]
theorem Stk.cons {w : World} {f : Nat} {v0 : Value} {t : T} {vs : List Value} {l : List T} {r : List (List T)} (h : Stk w f v0 t vs (l :: r)) :
    ∃ v vs', vs = v :: vs' ∧ (Lies w (f + 1) v (.sl 6 l.length (rows l)) ∨ (v = v0 ∧ l = [t])) ∧ Stk w f v0 t vs' r := by
  cases vs with
  | nil => exact h.elim
  | cons v vs => exact ⟨v, vs, rfl, h⟩
theorem leftS_length : ∀ st : List (List T), st.length ≤ leftS st
  | [] => by simp [leftS]
  | l :: r => by rw [leftS, List.length_cons]; have := leftS_length r; omega
/-- What a round is handed. -/
def Arg (w : World) (f : Nat) (x : T × Nat) (args : Array Value) : Prop := ∃ us : List Value, args = #[.agg us.toArray, .int .i64 (x.2 : Nat)] ∧ LiesS w f us (row x.1)
theorem TrydinfoSeq : (Tryd.prog.info? 25).map (fun i => (i.zero, i.size, i.bytes)) = some (some (.slice none 0 0), 1, 24) := by kernel_rfl
theorem tree_six : (Tryd.prog.info? 27).map (·.size) = some 6 := by kernel_rfl
/-- The head of a list that reads: its six cells, and the rest. -/
theorem Lies.head {w : World} {f : Nat} {v : Value} {x : T} {l : List T} (h : Lies w (f + 1) v (.sl 6 (x :: l).length (rows (x :: l)))) :
    ∃ g o c u0 u1 u2 u3 u4 u5, v = .slice (some ⟨g, o, none⟩) (l.length + 1) (c + 1) ∧ l.length ≤ c ∧ c + 1 ≤ maxLen ∧ g < w.heap.size ∧ Six w g o u0 u1 u2 u3 u4 u5 ∧ LiesS w f [u0, u1, u2, u3, u4, u5] (row x) ∧
      ∀ (A : Option Addr) (k : Nat), l.length ≤ k → k ≤ c → (0 < l.length → A = some ⟨g, o + 6, none⟩) → Lies w (f + 1) (.slice A l.length k) (.sl 6 l.length (rows l)) := by
  obtain ⟨A, c, rfl, h1, h2, h3, f', hf, h4⟩ := h.sl
  obtain rfl : f = f' := by omega
  obtain ⟨A', c', e, h5, h6, f', hf', hk⟩ := kids_of_lies h
  obtain rfl : f = f' := by omega
  injection e with e1 _ e3
  subst e1 e3
  obtain ⟨g, o, rfl, hg, hkid⟩ := hk (by simp)
  obtain ⟨u0, u1, u2, u3, u4, u5, hsix, hl⟩ := hkid 0 x rfl
  rw [List.length_cons] at h1
  obtain ⟨c, rfl⟩ : ∃ d, c = d + 1 := ⟨c - 1, by omega⟩
  refine ⟨g, o, c, u0, u1, u2, u3, u4, u5, rfl, by omega, h2, hg, by simpa using hsix, hl, fun A k hk1 hk2 hA => ?_⟩
  refine ⟨A, k, rfl, hk1, by omega, by rw [rows_length], fun hn => ⟨g, o + 6, hA hn, hg, fun m d hd => ?_⟩⟩
  obtain ⟨g', o', e', _, hc⟩ := h4 (by simp)
  injection e' with e'
  injection e' with e1 e2 e3
  subst e1 e2
  obtain ⟨u, hu, hl⟩ := hc (6 + m) d (by
    rw [rows, List.getElem?_append_right (by rw [row_length]; omega), row_length, Nat.add_sub_cancel_left]
    exact hd)
  exact ⟨u, by rw [Nat.add_assoc]; exact hu, hl⟩

theorem treesIn_call (k : Int) (fl : Bool) (n : Int) (s : ByteArray) (u4 u5 : Value) (w : World) :
    Calls Tryd.prog 42 #[.agg #[.int .i64 k, .bool fl, .int .i64 n, .string s, u4, u5]] w fun e w' =>
      e = .returned (.func (.func 70) #[] #[.pointer (some ⟨w.heap.size, 0, none⟩)]) ∧ w' = w.alloc (.cells #[.int .i64 k, .bool fl, .int .i64 n, .string s, u4, u5] 27) := by
  go_enter Tryd.func42, Tryd.ntmps42
  go_wp2_with fail
  go_ret
  exact ⟨rfl, rfl⟩
end Go.Proofs.YtmldigfghiofkaaDoor.tree
