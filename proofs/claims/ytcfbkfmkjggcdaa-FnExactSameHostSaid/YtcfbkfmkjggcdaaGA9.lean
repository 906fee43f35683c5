/- Merged: DrewM CutM CutB QuietB. -/
import Derived.Test.YtcfbkfmkjggcdaaGA0
import Derived.Test.YtcfbkfmkjggcdaaRows
import Derived.ProofKit
import Derived.OpenShut
import Derived.BigQuiet
import Derived.Deep.QuietTactic
namespace Go.Proofs.Ytcfbkfmkjggcdaa.lab
open Go.ChangeShapes Go.WideShapes Go.ChangeAt Go.RowKit
set_option linter.unusedVariables false

theorem drew_of {w wr : World} (h : ∃ n, wr = w.drewN n) (m : Nat) : ∃ n, wr.drewN m = w.drewN n := by
  obtain ⟨n, rfl⟩ := h
  exact ⟨n + m, by simp⟩
end Go.Proofs.Ytcfbkfmkjggcdaa.lab
namespace Go.Proofs.Ytcfbkfmkjggcdaa.cut
open Go Go.RowKit
set_option linter.unusedVariables false

/-- Behind k bytes: where the open part begins, and the parts so far. The end of the text counts as the byte. -/
def cs (s : ByteArray) (c : Int) : Nat → Nat × List ByteArray
  | 0 => (0, [])
  | k + 1 => if k = s.size ∨ at_ s k = c then (k + 1, (cs s c k).2 ++ [s.extract (cs s c k).1 k]) else cs s c k
theorem cs_bd (s : ByteArray) (c : Int) (k : Nat) : (cs s c k).1 ≤ k ∧ (cs s c k).2.length ≤ k := by
  induction k with
  | zero => simp [cs]
  | succ k ih =>
    simp only [cs]
    split
    · refine ⟨Nat.le_refl _, ?_⟩
      simp; omega
    · omega
theorem cs_no {s : ByteArray} {c : Int} {k b : Nat} {l : List ByteArray} (h : cs s c k = (b, l)) (h1 : k < s.size) (h2 : at_ s k ≠ c) : cs s c (k + 1) = (b, l) := by
  simp only [cs]; rw [if_neg (by omega)]; exact h
theorem cs_add {s : ByteArray} {c : Int} {k b : Nat} {l : List ByteArray} (h : cs s c k = (b, l)) (h1 : k = s.size ∨ at_ s k = c) : cs s c (k + 1) = (k + 1, l ++ [s.extract b k]) := by
  simp only [cs]; rw [if_pos h1, h]
def cutF (s : ByteArray) (c : Int) : List ByteArray := (cs s c (s.size + 1)).2
theorem cut_le (s : ByteArray) (c : Int) : (cutF s c).length ≤ s.size + 1 := (cs_bd s c _).2
/-- No part is longer than the text. -/
theorem cs_sizes (s : ByteArray) (c : Int) (k : Nat) : ∀ x ∈ (cs s c k).2, x.size ≤ s.size := by
  induction k with
  | zero => intro x hx; simp [cs] at hx
  | succ k ih =>
    intro x hx
    simp only [cs] at hx
    split at hx
    · rcases List.mem_append.1 hx with h | h
      · exact ih x h
      · rw [List.mem_singleton] at h
        subst h
        rw [ByteArray.size_extract]
        omega
    · exact ih x hx
theorem cut_sizes (s : ByteArray) (c : Int) : ∀ x ∈ cutF s c, x.size ≤ s.size := cs_sizes s c _
/-- What a function that makes a list of strings hands back. -/
def OutS (e0 : TypeId) (w : World) (l : List ByteArray) (e : Ending) (w' : World) : Prop := ∃ v, e = .returned v ∧ w'.ownsRow w.heap.size e0 1 v l.length (scells l) ∧ Below w.heap.size w w'
end Go.Proofs.Ytcfbkfmkjggcdaa.cut
namespace Go.Proofs.Ytcfbkfmkjggcdaa.cut
open Go Go.RowKit
set_option linter.unusedVariables false

def splitL (c : Int) : List UInt8 → List (List UInt8)
  | [] => [[]]
  | b :: r => if (b.toNat : Int) = c then [] :: splitL c r else match splitL c r with
    | [] => [[b]]
    | h :: t => (b :: h) :: t
theorem split_no {c : Int} : ∀ (x : List UInt8), (∀ b ∈ x, (b.toNat : Int) ≠ c) → splitL c x = [x]
  | [], _ => rfl
  | b :: r, h => by
    rw [splitL, if_neg (h b List.mem_cons_self), split_no r fun y hy => h y (List.mem_cons_of_mem _ hy)]
theorem split_cons {c : Int} {b : UInt8} (hb : (b.toNat : Int) = c) : ∀ (x r : List UInt8), (∀ y ∈ x, (y.toNat : Int) ≠ c) → splitL c (x ++ b :: r) = x :: splitL c r
  | [], r, _ => by rw [List.nil_append, splitL, if_pos hb]
  | y :: x, r, h => by
    rw [List.cons_append, splitL, if_neg (h y List.mem_cons_self), split_cons hb x r fun z hz => h z (List.mem_cons_of_mem _ hz)]
def mk (x : List UInt8) : ByteArray := ⟨x.toArray⟩
theorem mk_ex (s : ByteArray) (a b : Nat) : s.extract a b = mk ((s.data.toList.drop a).take (b - a)) := by
  apply ByteArray.ext
  apply Array.ext'
  rw [ByteArray.data_extract, Array.toList_extract, List.extract_eq_take_drop]
  rfl
/-- What is behind k bytes: no byte of the kind since the open part began, and the rest still to be cut. -/
theorem cs_inv (s : ByteArray) (c : Int) : ∀ k, k ≤ s.size → (∀ i, (cs s c k).1 ≤ i → i < k → at_ s i ≠ c) ∧ (cs s c k).2 ++ (splitL c (s.data.toList.drop (cs s c k).1)).map mk = (splitL c s.data.toList).map mk := by
  intro k
  induction k with
  | zero => intro _; exact ⟨fun i _ h => by omega, by simp [cs]⟩
  | succ k ih =>
    intro hk
    obtain ⟨h1, h2⟩ := ih (by omega)
    have hb := (cs_bd s c k).1
    by_cases hc : at_ s k = c
    · have e : cs s c (k + 1) = (k + 1, (cs s c k).2 ++ [s.extract (cs s c k).1 k]) := cs_add rfl (.inr hc)
      rw [e]
      refine ⟨fun i h3 h4 => by simp only at h3; omega, ?_⟩
      have hlen : s.data.toList.length = s.size := by rw [Array.length_toList]; rfl
      have hkl : k < s.data.toList.length := by omega
      have hd : s.data.toList.drop (cs s c k).1 = (s.data.toList.drop (cs s c k).1).take (k - (cs s c k).1) ++ s.data.toList[k] :: s.data.toList.drop (k + 1) := by
        have h5 := (List.take_append_drop (k - (cs s c k).1) (s.data.toList.drop (cs s c k).1)).symm
        rw [List.drop_drop, show (cs s c k).1 + (k - (cs s c k).1) = k by omega, List.drop_eq_getElem_cons hkl] at h5
        exact h5
      have hat : ∀ i (h : i < s.data.toList.length), (s.data.toList[i].toNat : Int) = at_ s i := fun i h => by
        unfold at_
        rw [List.getD_eq_getElem?_getD, List.getElem?_eq_getElem h]
        rfl
      rw [hd, split_cons (by rw [hat k hkl]; exact hc) _ _ (fun y hy => by
        obtain ⟨i, hi, rfl⟩ := List.getElem_of_mem hy
        rw [List.length_take, List.length_drop] at hi
        rw [List.getElem_take, List.getElem_drop, hat]
        exact h1 _ (by omega) (by omega)), List.map_cons] at h2
      rw [← h2, mk_ex]
      simp
    · rw [show cs s c (k + 1) = cs s c k from cs_no rfl (by omega) hc]
      refine ⟨fun i h3 h4 => ?_, h2⟩
      by_cases e : i = k
      · subst e; exact hc
      · exact h1 i h3 (by omega)
theorem cut_is (s : ByteArray) (c : Int) : cutF s c = (splitL c s.data.toList).map mk := by
  obtain ⟨h1, h2⟩ := cs_inv s c s.size (Nat.le_refl _)
  have hb := (cs_bd s c s.size).1
  have hlen : s.data.toList.length = s.size := by rw [Array.length_toList]; rfl
  unfold cutF
  rw [show cs s c (s.size + 1) = (s.size + 1, (cs s c s.size).2 ++ [s.extract (cs s c s.size).1 s.size]) from cs_add rfl (.inl rfl)]
  rw [split_no (s.data.toList.drop (cs s c s.size).1) (fun y hy => by
    obtain ⟨i, hi, rfl⟩ := List.getElem_of_mem hy
    rw [List.length_drop] at hi
    rw [List.getElem_drop]
    have h3 := h1 ((cs s c s.size).1 + i) (by omega) (by omega)
    unfold at_ at h3
    rw [List.getD_eq_getElem?_getD, List.getElem?_eq_getElem (by omega)] at h3
    exact h3)] at h2
  rw [← h2, mk_ex, List.take_of_length_le (by rw [List.length_drop]; omega)]
  rfl
end Go.Proofs.Ytcfbkfmkjggcdaa.cut
namespace Go.Proofs.Ytcfbkfmkjggcdaa
open Go Go.RowKit
set_option linter.unusedVariables false

/-- A world that keeps all that was there. -/
structure BelowBy (w : World) where
  v : World
  h : Below w.heap.size w v
def BelowBy.start (w : World) : BelowBy w := ⟨w.drewN 1, below_drewN (Below.refl _ _) 1⟩
instance (w : World) : Inhabited (BelowBy w) := ⟨BelowBy.start w⟩
theorem drew_below' {P : Program} {f : FuncId} {args : Array Value} {w : World} {E : Ending} (h : Calls P f args w fun e w' => e = E ∧ ∃ n, w' = w.drewN n) : Calls P f args w fun e w' => e = E ∧ Below w.heap.size w w' :=
  h.mono fun _ _ ⟨he, n, hn⟩ => ⟨he, by rw [hn]; exact below_drewN (Below.refl _ _) n⟩
theorem wp_region_quiet_below {P : Program} {id : Nat} {Q : Exit → Act → World → Prop} {a : Act} {w : World} {l : List Oper} (hm : P.follows .mixedOrders = true) (hB : Region.lexB .any l.toArray = true)
    (h : wpQuiet P l.toArray (fun w' => ∃ p : BelowBy w, w' = p.v) (fun a' => ∀ w', (∃ p : BelowBy w, w' = p.v) → Q .normal a' w') l a) : (Code.region id l.toArray true).wp P Q a w :=
  wp_region_quiet (C := fun w' => ∃ p : BelowBy w, w' = p.v) hm hB ⟨BelowBy.start w, rfl⟩ (by simpa using h)
theorem BelowBy.cell {w : World} {a : Addr} {v : Value} (hb : a.block < w.heap.size) (h : w.cell? a = some v) (p : BelowBy w) : p.v.cell? a = some v :=
  (World.cell?_of_block (p.h.block _ hb)).trans h
/-- A callee's contract, met in a world of the class. -/
theorem Calls.below_of {P : Program} {f : FuncId} {args : Array Value} {w : World} {p : BelowBy w} {v : Value}
    (h : Calls P f args p.v fun e w' => e = .returned v ∧ Below p.v.heap.size p.v w') : Calls P f args p.v fun e w'' => e = .returned v ∧ ∃ q : BelowBy w, w'' = q.v :=
  h.mono fun _ w' ⟨he, hw⟩ => ⟨he, ⟨w', p.h.trans (hw.mono p.h.size)⟩, rfl⟩
end Go.Proofs.Ytcfbkfmkjggcdaa
