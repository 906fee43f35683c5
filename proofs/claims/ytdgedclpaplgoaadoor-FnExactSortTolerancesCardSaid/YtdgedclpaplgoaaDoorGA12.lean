/- Merged: ClearK FlT CmpBM TaintC Box2 TaintS FlSrt SumD MethI FieldsI RowE. -/
import Derived.Test.YtdgedclpaplgoaaDoorGA4
import Derived.Laws.IdiomCopy
import Derived.Laws.OwnMore
import Derived.Tactics
import Derived.Test.YtdgedclpaplgoaaDoorGA5
import Derived.Test.YtdgedclpaplgoaaDoorGA16
import Derived.Lib.Bytealg
import Derived.Test.YtdgedclpaplgoaaDoorGA6
import Derived.Test.YtdgedclpaplgoaaDoorGA0
import Derived.Laws.Cover1
import Derived.Deep.RegionLaw
import Derived.Test.YtdgedclpaplgoaaDoorGA1
import Derived.Test.YtdgedclpaplgoaaDoorRows
import Derived.ProofKit
import Derived.OpenShut
import Derived.Laws.Rows
import Derived.Test.YtdgedclpaplgoaaDoorCell
namespace Go.Proofs.YtdgedclpaplgoaaDoor
open Go Go.RowKit
set_option linter.unusedVariables false

theorem zeroCells_len (z : Array Value) (n : Nat) : (Builtin.zeroCells z n).toList.length = n * z.size := by simp [Builtin.zeroCells]
theorem run_clear_k {P : Program} (w : World) (t e ty : TypeId) (z : Value) (ht : P.underlying t = some (.slice e)) (hv : ∀ w, (zeroValue e).run P w = .ok z w) (h1 : ∀ (i : Nat) (h : i < z.cells.size), (z.cells[i]).oneCell' = true) (b o n c : Nat) (hn : 0 < n) (hz : 0 < z.cells.size)
    (hc : ∀ j, j < n * z.cells.size → (w.cell? ⟨b, o + j, none⟩).isSome = true) (hf : ∀ j, j < n * z.cells.size → w.frozen? ⟨b, o + j, none⟩ = false) :
    (Builtin.clear_ #[t] ty #[.slice (some ⟨b, o, none⟩) n c]).run P w = .ok (.tuple #[]) (w.setCells b o (Builtin.zeroCells z.cells n).toList) := by
  have hst := run_storeCells_cells (P := P) b o (Builtin.zeroCells z.cells n).toList 0 w (fun j hj => by rw [zeroCells_len] at hj; simpa only [Nat.add_zero] using hc j hj) (fun j hj => by rw [zeroCells_len] at hj; simpa only [Nat.add_zero] using hf j hj) (by
    intro v hv'
    rw [Array.mem_toList_iff] at hv'
    unfold Builtin.zeroCells at hv'
    rw [Array.mem_map] at hv'
    obtain ⟨i, hi, rfl⟩ := hv'
    rw [getElem!_pos z.cells (i % z.cells.size) (Nat.mod_lt _ hz)]
    exact h1 _ _)
  simp only [Nat.add_zero] at hst
  obtain ⟨m, rfl⟩ : ∃ m, n = m + 1 := ⟨n - 1, by omega⟩
  simp [Builtin.clear_, run_underlying ht, hv, hst]
/-- The same block, cut short. -/
theorem own_prefix {w : World} {B : Nat} {e : TypeId} {size g n m c : Nat} {xs : List Value} (h : w.ownsRow B e size (.slice (some ⟨g, 0, none⟩) n c) n xs) (hm : m ≤ n) : w.ownsRow B e size (.slice (some ⟨g, 0, none⟩) m c) m (xs.take (m * size)) := by
  have hl := h.1
  have hle : m * size ≤ n * size := Nat.mul_le_mul_right _ hm
  rcases h.2 with ⟨h0, _⟩ | ⟨g', cap, cur, hv, h1, h2, h3, h4, h5, h6⟩
  · cases h0
  · injection hv with hv _ hc
    injection hv with hv
    injection hv with hv
    subst hv hc
    refine ⟨by rw [List.length_take]; omega, .inr ⟨g, c, cur, rfl, h1, h2, by omega, h4, h5, ?_⟩⟩
    rw [← h6, List.take_take, Nat.min_eq_left hle]
theorem setR_low : ∀ (vs xs : List Value) (o k : Nat), k ≤ o → (setR xs o vs).take k = xs.take k
  | [], xs, o, k, h => rfl
  | v :: r, xs, o, k, h => by rw [setR, setR_low r _ _ _ (by omega), List.take_set_of_le (by omega)]
end Go.Proofs.YtdgedclpaplgoaaDoor
namespace Go.Proofs.YtdgedclpaplgoaaDoor.flt
open Go Go.RowKit
set_option linter.unusedVariables false
variable {α : Type} {enc : α → List Value} {k : Nat}

theorem take_flat (hk : ∀ x, (enc x).length = k) (l : List α) (j : Nat) : (l.flatMap enc).take (j * k) = (l.take j).flatMap enc := by
  by_cases h : j ≤ l.length
  · have e : l.flatMap enc = (l.take j).flatMap enc ++ (l.drop j).flatMap enc := by rw [← List.flatMap_append, List.take_append_drop]
    have e2 : j * k = ((l.take j).flatMap enc).length := by rw [flat_length' hk, List.length_take, Nat.min_eq_left h]
    rw [e, e2, List.take_left]
  · rw [List.take_of_length_le (by rw [flat_length' hk]; exact Nat.mul_le_mul_right _ (by omega)), List.take_of_length_le (by omega)]
theorem drop_flat (hk : ∀ x, (enc x).length = k) (l : List α) (j : Nat) : (l.flatMap enc).drop (j * k) = (l.drop j).flatMap enc := by
  by_cases h : j ≤ l.length
  · have e : l.flatMap enc = (l.take j).flatMap enc ++ (l.drop j).flatMap enc := by rw [← List.flatMap_append, List.take_append_drop]
    have e2 : j * k = ((l.take j).flatMap enc).length := by rw [flat_length' hk, List.length_take, Nat.min_eq_left h]
    rw [e, e2, List.drop_left]
  · rw [List.drop_of_length_le (by rw [flat_length' hk]; exact Nat.mul_le_mul_right _ (by omega)), List.drop_of_length_le (by omega)]; rfl
theorem setR_eq : ∀ (vs xs : List Value) (o : Nat), o + vs.length ≤ xs.length → setR xs o vs = xs.take o ++ vs ++ xs.drop (o + vs.length)
  | [], xs, o, _ => by simp [setR]
  | v :: r, xs, o, h => by
    simp only [List.length_cons] at h
    rw [setR, setR_eq r _ _ (by simp; omega), List.take_succ_eq_append_getElem (by simp; omega), List.take_set_of_le (Nat.le_refl _), List.getElem_set_self, List.drop_set_of_lt (by omega)]
    simp only [List.length_cons, List.append_assoc, List.cons_append, List.nil_append]
    rw [show o + 1 + r.length = o + (r.length + 1) by omega]
theorem set_flat (hk : ∀ x, (enc x).length = k) (l : List α) (j : Nat) (x : α) (h : j < l.length) : setR (l.flatMap enc) (j * k) (enc x) = (l.set j x).flatMap enc := by
  have h2 : j * k + k ≤ l.length * k := by rw [← Nat.succ_mul]; exact Nat.mul_le_mul_right _ h
  rw [setR_eq _ _ _ (by rw [flat_length' hk, hk]; exact h2), hk, take_flat hk, show j * k + k = (j + 1) * k from (Nat.succ_mul j k).symm, drop_flat hk, List.set_eq_take_append_cons_drop, if_pos h, List.flatMap_append, List.flatMap_cons, List.append_assoc]
/-- One cell of a slice of the call's own. -/
theorem cell_of {w : World} {B g c n : Nat} {e : TypeId} {l : List α} (hk : ∀ x, (enc x).length = k) (h : w.ownsRow B e k (.slice (some ⟨g, 0, none⟩) n c) n (l.flatMap enc)) {j i : Nat} (hj : j < l.length) (hi : i < k) {u : Value} (hu : (enc l[j])[i]? = some u) : w.cell? ⟨g, j * k + i, none⟩ = some u := by
  have h1 := h.cells (g := g) rfl (j * k + i) u (by rw [flat_get' hk l j i _ (List.getElem?_eq_getElem hj) hi]; exact hu)
  rwa [Addr.add_lit, Nat.zero_add] at h1
theorem ones_flat (h1 : ∀ x, ∀ u ∈ enc x, u.oneCell' = true) (l : List α) : ∀ u ∈ l.flatMap enc, u.oneCell' = true := fun u hu => by
  obtain ⟨x, _, hx⟩ := List.mem_flatMap.1 hu
  exact h1 x u hx
/-- The elements of a slice that came in. -/
theorem rdk_of_els {row : α → List C} {Wf : α → Prop} (hk : ∀ x, (enc x).length = k) (k0 : 0 < k) (hop : ∀ (w : World) (f : Nat) (us : List Value) (x : α), LiesS w f us (row x) → us = enc x ∧ Wf x) {w : World} {f : Nat} {A : Option Addr} {l : List α} (h : ElsAt row w f A l k) : RdK w A l.length k (l.flatMap enc) ∧ ∀ x ∈ l, Wf x := by
  refine ⟨⟨flat_length' hk l, fun hm => ?_⟩, fun x hx => ?_⟩
  · obtain ⟨g, o, hA, hg, hc⟩ := h hm
    refine ⟨g, o, hA, hg, fun j u hu => ?_⟩
    have hj : j < l.length * k := by
      have := (List.getElem?_eq_some_iff.1 hu).1
      rwa [flat_length' hk] at this
    have e : j / k * k + j % k = j := Nat.div_add_mod' j k
    have hi : j / k < l.length := (Nat.div_lt_iff_lt_mul k0).2 hj
    obtain ⟨us, h1, h2, h3⟩ := hc (j / k) _ (List.getElem?_eq_getElem hi)
    obtain ⟨rfl, _⟩ := hop _ _ _ _ h3
    rw [← e] at hu
    rw [flat_get' hk l (j / k) (j % k) _ (List.getElem?_eq_getElem hi) (Nat.mod_lt _ k0)] at hu
    have := h2 (j % k) u hu
    rwa [Nat.add_assoc, e] at this
  · obtain ⟨i, hi, rfl⟩ := List.getElem_of_mem hx
    obtain ⟨g, o, hA, hg, hc⟩ := h (by omega)
    obtain ⟨us, h1, h2, h3⟩ := hc i _ (List.getElem?_eq_getElem hi)
    exact (hop _ _ _ _ h3).2
theorem owns_vals {row : α → List C} {Wf : α → Prop} {w : World} {B f : Nat} (hown : ∀ x : α, Wf x → OwnS w B (f + 1) (enc x) (row x) []) : ∀ l : List α, (∀ x ∈ l, Wf x) → OwnS w B (f + 1) (l.flatMap enc) (l.flatMap row) []
  | [], _ => OwnS.nil
  | x :: l, h => by
    rw [List.flatMap_cons, List.flatMap_cons]
    exact (hown x (h x List.mem_cons_self)).append (owns_vals hown l fun y hy => h y (List.mem_cons_of_mem _ hy))
/-- An own row of flat structs is an owned slice. -/
theorem own_vals {row : α → List C} {Wf : α → Prop} {w : World} {B : Nat} {e : TypeId} {v : Value} {l : List α} (hr : ∀ x, (row x).length = k) (hown : ∀ x : α, Wf x → OwnS w B 1 (enc x) (row x) []) (h : w.ownsRow B e k v l.length (l.flatMap enc)) (hw : ∀ x ∈ l, Wf x) : ∃ F, Own w B 2 v (.sl k l.length (l.flatMap row)) F ∧ F.Nodup ∧ ∀ x ∈ F, B ≤ x ∧ x < w.heap.size :=
  OwnRow.own ⟨l.flatMap enc, [], h, by rw [flat_length' hr], owns_vals (f := 0) hown l hw, List.nodup_nil, fun x hx => by cases hx⟩
/-- Behind the sort of an own row: the pairwise order out of the sort's own words. -/
theorem own_pos {w : World} {B : Nat} {e : TypeId} {size n : Nat} {v : Value} {xs : List Value} (h : w.ownsRow B e size v n xs) (hn : 0 < n) : ∃ g c, v = .slice (some ⟨g, 0, none⟩) n c := by
  rcases h.2 with ⟨_, h⟩ | ⟨g, cap, cur, rfl, _⟩
  · omega
  · exact ⟨g, cap, rfl⟩
end Go.Proofs.YtdgedclpaplgoaaDoor.flt
namespace Go.Proofs.YtdgedclpaplgoaaDoor.need
open Go Go.RowKit ty lab
set_option linter.unusedVariables false

def cmpB (a b : ByteArray) : Int := Lib.compareBytes a.data.toList b.data.toList
theorem cmpL_less : ∀ a b : List UInt8, decide (Lib.compareBytes a b < 0) = Op.bytesLess a b
  | [], [] => rfl
  | [], _ :: _ => rfl
  | _ :: _, [] => rfl
  | a :: x, b :: y => by
    rw [Lib.compareBytes, Op.bytesLess]
    by_cases h1 : a < b
    · simp [h1]
    · rw [if_neg h1]
      by_cases h2 : b < a
      · rw [if_pos h2]
        have : (a == b) = false := by rw [beq_eq_false_iff_ne]; rintro rfl; exact h1 h2
        simp [h1, this]
      · rw [if_neg h2, cmpL_less x y]
        obtain rfl : a = b := by
          rw [UInt8.lt_iff_toNat_lt] at h1 h2
          exact UInt8.toNat_inj.1 (by omega)
        simp [h1]
theorem cmpL_zero : ∀ a b : List UInt8, Lib.compareBytes a b = 0 → a = b
  | [], [], _ => rfl
  | [], _ :: _, h => by simp [Lib.compareBytes] at h
  | _ :: _, [], h => by simp [Lib.compareBytes] at h
  | a :: x, b :: y, h => by
    rw [Lib.compareBytes] at h
    by_cases h1 : a < b
    · rw [if_pos h1] at h; cases h
    · rw [if_neg h1] at h
      by_cases h2 : b < a
      · rw [if_pos h2] at h; cases h
      · rw [if_neg h2] at h
        rw [UInt8.lt_iff_toNat_lt] at h1 h2
        obtain rfl : a = b := UInt8.toNat_inj.1 (by omega)
        rw [cmpL_zero x y h]
theorem cmpL_self : ∀ a : List UInt8, Lib.compareBytes a a = 0
  | [] => rfl
  | a :: x => by
    have : ¬ a < a := fun h => by rw [UInt8.lt_iff_toNat_lt] at h; omega
    rw [Lib.compareBytes, if_neg this, if_neg this, cmpL_self x]
theorem cmpB_less (a b : ByteArray) : decide (cmpB a b < 0) = lessB a b := by
  unfold cmpB lessB
  rw [cmpL_less, ByteArray.toList_eq, ByteArray.toList_eq]
theorem cmpB_zero {a b : ByteArray} (h : cmpB a b = 0) : a = b := by
  have := cmpL_zero _ _ h
  apply ByteArray.ext
  exact Array.ext' this
theorem cmpB_self (a : ByteArray) : cmpB a a = 0 := cmpL_self _
theorem cmpB_way (a b : ByteArray) : cmpB a b = 0 ∧ a = b ∨ cmpB a b < 0 ∧ a ≠ b ∧ lessB a b = true ∨ 0 < cmpB a b ∧ a ≠ b ∧ lessB a b = false := by
  have h := cmpB_less a b
  rcases Int.lt_trichotomy (cmpB a b) 0 with h1 | h1 | h1
  · exact .inr (.inl ⟨h1, fun e => by subst e; rw [cmpB_self] at h1; omega, by rw [← h]; exact decide_eq_true h1⟩)
  · exact .inl ⟨h1, cmpB_zero h1⟩
  · exact .inr (.inr ⟨h1, fun e => by subst e; rw [cmpB_self] at h1; omega, by rw [← h]; exact decide_eq_false (by omega)⟩)
/-- What cmp.Or gives of three. -/
def orI (a b c : Int) : Int := if a = 0 then (if b = 0 then c else b) else a
theorem bd_cmpL : ∀ a b : List UInt8, -1 ≤ Lib.compareBytes a b ∧ Lib.compareBytes a b ≤ 1
  | [], [] => by simp [Lib.compareBytes]
  | [], _ :: _ => by simp [Lib.compareBytes]
  | _ :: _, [] => by simp [Lib.compareBytes]
  | a :: x, b :: y => by
    rw [Lib.compareBytes]
    by_cases h1 : a < b
    · rw [if_pos h1]; omega
    · rw [if_neg h1]
      by_cases h2 : b < a
      · rw [if_pos h2]; omega
      · rw [if_neg h2]; exact bd_cmpL x y
end Go.Proofs.YtdgedclpaplgoaaDoor.need
namespace Go.Proofs.YtdgedclpaplgoaaDoor
open Go Go.RowKit
set_option linter.unusedVariables false
namespace taint
open ty lab need
def cmpT (a b : Taint) : Int := orI (cmpB a.key b.key) (cmpB a.value b.value) (arith.cmpF a.effect b.effect)
theorem cmpF_way (a b : Int) : (arith.cmpF a b = 0 ∧ a = b) ∨ (arith.cmpF a b < 0 ∧ a < b) ∨ (0 < arith.cmpF a b ∧ b < a) := by
  unfold arith.cmpF
  by_cases h : a < b
  · rw [if_pos h]; omega
  · rw [if_neg h]
    by_cases h2 : b < a
    · rw [if_pos h2]; omega
    · rw [if_neg h2]; omega
theorem wayT : CmpWay cmpT lessT := fun a b => by
  obtain ⟨k1, v1, e1⟩ := a
  obtain ⟨k2, v2, e2⟩ := b
  unfold cmpT lessT orI
  simp only
  rcases cmpB_way k1 k2 with ⟨h1, h2⟩ | ⟨h1, h2, h3⟩ | ⟨h1, h2, h3⟩
  · rw [if_pos h1, if_pos h2]
    subst h2
    rcases cmpB_way v1 v2 with ⟨g1, g2⟩ | ⟨g1, g2, g3⟩ | ⟨g1, g2, g3⟩
    · rw [if_pos g1, if_pos g2]
      subst g2
      rcases cmpF_way e1 e2 with ⟨f1, f2⟩ | ⟨f1, f2⟩ | ⟨f1, f2⟩
      · exact .inl ⟨f1, by rw [f2]⟩
      · exact .inr (.inl ⟨f1, fun e => by injection e; omega, decide_eq_true f2⟩)
      · exact .inr (.inr ⟨f1, fun e => by injection e; omega, decide_eq_false (by omega)⟩)
    · rw [if_neg (by omega), if_neg g2]
      exact .inr (.inl ⟨g1, fun e => by injection e; exact g2 (by assumption), g3⟩)
    · rw [if_neg (by omega), if_neg g2]
      exact .inr (.inr ⟨g1, fun e => by injection e; exact g2 (by assumption), g3⟩)
  · rw [if_neg (by omega), if_neg h2]
    exact .inr (.inl ⟨h1, fun e => by injection e; exact h2 (by assumption), h3⟩)
  · rw [if_neg (by omega), if_neg h2]
    exact .inr (.inr ⟨h1, fun e => by injection e; exact h2 (by assumption), h3⟩)
/-- Two flags compared: false ahead of true. -/
def cmpY (a b : Bool) : Int := if a = b then 0 else if b = true then -1 else 1
theorem cmpY_way (a b : Bool) : (cmpY a b = 0 ∧ a = b) ∨ (cmpY a b < 0 ∧ a ≠ b ∧ b = true) ∨ (0 < cmpY a b ∧ a ≠ b ∧ b = false) := by
  cases a <;> cases b <;> decide
def cmpO (a b : Tolerance) : Int := orI (cmpB a.key b.key) (cmpY a.equal b.equal) (orI (cmpB a.key b.key) (cmpB a.value b.value) (arith.cmpF a.effect b.effect))
theorem wayO : CmpWay cmpO befT := fun a b => by
  obtain ⟨k1, q1, v1, e1⟩ := a
  obtain ⟨k2, q2, v2, e2⟩ := b
  unfold cmpO befT befE befV orI
  simp only
  rcases cmpB_way k1 k2 with ⟨h1, h2⟩ | ⟨h1, h2, h3⟩ | ⟨h1, h2, h3⟩
  · rw [if_pos h1, if_pos h2]
    subst h2
    rcases cmpY_way q1 q2 with ⟨y1, y2⟩ | ⟨y1, y2, y3⟩ | ⟨y1, y2, y3⟩
    · rw [if_pos y1, if_pos y2]
      subst y2
      rcases cmpB_way v1 v2 with ⟨g1, g2⟩ | ⟨g1, g2, g3⟩ | ⟨g1, g2, g3⟩
      · rw [if_pos h1, if_pos g1, if_pos g2]
        subst g2
        rcases cmpF_way e1 e2 with ⟨f1, f2⟩ | ⟨f1, f2⟩ | ⟨f1, f2⟩
        · exact .inl ⟨f1, by rw [f2]⟩
        · exact .inr (.inl ⟨f1, fun e => by injection e; omega, decide_eq_true f2⟩)
        · exact .inr (.inr ⟨f1, fun e => by injection e; omega, decide_eq_false (by omega)⟩)
      · rw [if_pos h1, if_neg (by omega), if_neg g2]
        exact .inr (.inl ⟨g1, fun e => by injection e; exact g2 (by assumption), g3⟩)
      · rw [if_pos h1, if_neg (by omega), if_neg g2]
        exact .inr (.inr ⟨g1, fun e => by injection e; exact g2 (by assumption), g3⟩)
    · rw [if_neg (by omega), if_neg y2]
      exact .inr (.inl ⟨y1, fun e => by injection e; exact y2 (by assumption), y3⟩)
    · rw [if_neg (by omega), if_neg y2]
      exact .inr (.inr ⟨y1, fun e => by injection e; exact y2 (by assumption), y3⟩)
  · rw [if_neg (by omega), if_neg h2]
    exact .inr (.inl ⟨h1, fun e => by injection e; exact h2 (by assumption), h3⟩)
  · rw [if_neg (by omega), if_neg h2]
    exact .inr (.inr ⟨h1, fun e => by injection e; exact h2 (by assumption), h3⟩)
end taint
end Go.Proofs.YtdgedclpaplgoaaDoor
namespace Go.Proofs.YtdgedclpaplgoaaDoor.need
open Go Go.RowKit
set_option linter.unusedVariables false

/-- Two structs that came in by value, each in a box of its own. -/
def Box2 (e : TypeId) (w : World) (us vs : List Value) (w' : World) : Prop := Box e w us w' ∧ w'.heap[w.heap.size + 1]? = some (.cells vs.toArray e (0, 0))
theorem Box2.new (e : TypeId) (w : World) (us vs : List Value) : Box2 e w us vs ((w.alloc (.cells us.toArray e)).alloc (.cells vs.toArray e)) := by
  refine ⟨(Box.new e w us).below ((Below.refl _ _).alloc (Nat.le_refl _) _), ?_⟩
  have h := heap_alloc_new (w.alloc (.cells us.toArray e)) (.cells vs.toArray e)
  simpa using h
theorem Box2.below {e : TypeId} {w a b : World} {us vs : List Value} (h : Box2 e w us vs a) (k : Below a.heap.size a b) : Box2 e w us vs b := ⟨h.1.below k, heap_kept k (heap_lt h.2) h.2⟩
theorem Box2.cell1 {e : TypeId} {w a : World} {us vs : List Value} (h : Box2 e w us vs a) {j : Nat} {u : Value} (hj : us[j]? = some u) : a.cell? ⟨w.heap.size, j, none⟩ = some u := h.1.cell hj
theorem Box2.cell2 {e : TypeId} {w a : World} {us vs : List Value} (h : Box2 e w us vs a) {j : Nat} {u : Value} (hj : vs[j]? = some u) : a.cell? ⟨w.heap.size + 1, j, none⟩ = some u := by
  rw [cell_of_row a _ j _ _ _ h.2]
  simpa using hj
end Go.Proofs.YtdgedclpaplgoaaDoor.need
namespace Go.Proofs.YtdgedclpaplgoaaDoor.taint
open Go.ChangeShapes Go.WideShapes Go.ChangeAt Go.RowKit ty lab need
set_option linter.unusedVariables false

theorem yes_and3 (p q r : Prop) : yes (p ∧ q ∧ r) = (yes p && (yes q && yes r)) := by
  by_cases hp : p
  · by_cases hq : q
    · by_cases hr : r
      · rw [yes_t hp, yes_t hq, yes_t hr, yes_t ⟨hp, hq, hr⟩]; rfl
      · rw [yes_t hp, yes_t hq, yes_f hr, yes_f fun h => hr h.2.2]; rfl
    · rw [yes_t hp, yes_f hq, yes_f fun h => hq h.2.1]; rfl
  · rw [yes_f hp, yes_f fun h => hp h.1]; rfl
theorem in_call (n : Int) (w : World) (a b : Int) : Calls Tryd.prog 132 #[.int .i64 n, .int .i64 a, .int .i64 b] w fun e w' => e = .returned (.bool (yes (a ≤ n ∧ n ≤ b))) ∧ w = w' := by
  by_cases hE : a ≤ n ∧ n ≤ b
  · rw [yes_t hE]; exact arith.in_yes n a b w hE.1 hE.2
  · rw [yes_f hE]; exact arith.in_no n a b w (by omega)
set_option maxRecDepth 100000 in
set_option maxHeartbeats 8000000 in
theorem spec_taint (x : Taint) (w : World) (hz : x.wt ≤ 1048576) :
    Calls Tryd.prog 90 #[.agg #[.string x.key, .string x.value, .int .i64 x.effect]] w fun e w' => e = .returned (.bool (yes (TaintP x))) ∧ Below w.heap.size w w' := by
  unfold Taint.wt at hz
  obtain ⟨k, a, n⟩ := x
  simp only at *
  rw [show yes (TaintP ⟨k, a, n⟩) = yes (KeyP k ∧ ValP a ∧ (1 ≤ n ∧ n ≤ 2)) from by congr 1; exact propext ⟨fun h => ⟨h.key, h.value, h.lo, h.hi⟩, fun h => ⟨h.1, h.2.1, h.2.2.1, h.2.2.2⟩⟩, yes_and3]
  have HK := Lib.hid (fun w' => spec_key k w' (by omega))
  have HV := Lib.hid (fun w' => spec_val a w' (by omega))
  have HI := Lib.hid (fun w' => in_call n w' 1 2)
  have Hb0 := Lib.hid (fun (o : Obj) n => below_drewN ((Below.refl w.heap.size w).alloc (Nat.le_refl _) o) n)
  clear hz
  generalize yes (KeyP k) = b1 at HK ⊢
  generalize yes (ValP a) = b2 at HV ⊢
  generalize yes (1 ≤ n ∧ n ≤ 2) = b3 at HI ⊢
  cases b1 with
  | false =>
    go_enter Tryd.func90, Tryd.ntmps90
    go_wp2_with fail
    refine (HK.out _).mono ?_
    rintro e w1 ⟨rfl, n1, rfl⟩
    go_wp2_with fail
    go_ret
    exact ⟨rfl, Hb0.out _ _⟩
  | true =>
  cases b2 with
  | false =>
    go_enter Tryd.func90, Tryd.ntmps90
    go_wp2_with fail
    refine (HK.out _).mono ?_
    rintro e w1 ⟨rfl, n1, rfl⟩
    go_wp2_with fail
    refine (HV.out _).mono ?_
    rintro e w1 ⟨rfl, n2, rfl⟩
    go_wp2_with fail
    go_ret
    exact ⟨rfl, by simpa using Hb0.out _ _⟩
  | true =>
    go_enter Tryd.func90, Tryd.ntmps90
    go_wp2_with fail
    refine (HK.out _).mono ?_
    rintro e w1 ⟨rfl, n1, rfl⟩
    go_wp2_with fail
    refine (HV.out _).mono ?_
    rintro e w1 ⟨rfl, n2, rfl⟩
    go_wp2_with fail
    refine (HI.out _).mono ?_
    rintro e w1 ⟨rfl, rfl⟩
    go_wp2_with fail
    go_ret
    exact ⟨by cases b3 <;> rfl, by simpa using Hb0.out _ _⟩
theorem lessT_key {a b : Taint} (h : ¬ a.key = b.key) : lessT a b = lessB a.key b.key := by unfold lessT; rw [if_neg h]
theorem lessT_val {a b : Taint} (h : a.key = b.key) (h2 : ¬ a.value = b.value) : lessT a b = lessB a.value b.value := by unfold lessT; rw [if_pos h, if_neg h2]
theorem lessT_eff {a b : Taint} (h : a.key = b.key) (h2 : a.value = b.value) : lessT a b = decide (a.effect < b.effect) := by unfold lessT; rw [if_pos h, if_pos h2]
set_option maxRecDepth 100000 in
set_option maxHeartbeats 16000000 in
theorem spec_lessT (x y : Taint) (w : World) :
    Calls Tryd.prog 55 #[.agg #[.string x.key, .string x.value, .int .i64 x.effect], .agg #[.string y.key, .string y.value, .int .i64 y.effect]] w fun e w' => e = .returned (.bool (lessT x y)) ∧ Below w.heap.size w w' := by
  obtain ⟨R, hR⟩ : ∃ R, lessT x y = R := ⟨_, rfl⟩
  rw [hR]
  have Hk : Hid (¬ x.key = y.key → R = lessB x.key y.key) := fun h => by rw [← hR]; exact lessT_key h
  have Hv : Hid (x.key = y.key → ¬ x.value = y.value → R = lessB x.value y.value) := fun h h2 => by rw [← hR]; exact lessT_val h h2
  have He : Hid (x.key = y.key → x.value = y.value → R = decide (x.effect < y.effect)) := fun h h2 => by rw [← hR]; exact lessT_eff h h2
  obtain ⟨k1, v1, n1⟩ := x
  obtain ⟨k2, v2, n2⟩ := y
  simp only at *
  have Hb := Lib.hid (fun a b : Obj => ((Below.refl w.heap.size w).alloc (Nat.le_refl _) a).alloc (by simp) b)
  clear hR
  by_cases hk : k1 = k2
  case neg =>
    have Hf := Lib.hid (Hk.out hk)
    have hs := same_no hk
    unfold lessB at Hf
    clear hk Hk Hv He
    go_enter Tryd.func55, Tryd.ntmps55
    go_wp2_with fail
    go_ret
    exact ⟨by rw [Hf.out]; rfl, Hb.out _ _⟩
  have hs := same_yes hk
  by_cases hv : v1 = v2
  case neg =>
    have Hf := Lib.hid (Hv.out hk hv)
    have ht := same_no hv
    unfold lessB at Hf
    clear hk hv Hk Hv He
    go_enter Tryd.func55, Tryd.ntmps55
    go_wp2_with fail
    go_ret
    exact ⟨by rw [Hf.out]; rfl, Hb.out _ _⟩
  have ht := same_yes hv
  have Hf := Lib.hid (He.out hk hv)
  clear hk hv Hk Hv He
  go_enter Tryd.func55, Tryd.ntmps55
  go_wp2_with fail
  go_ret
  exact ⟨by rw [Hf.out]; rfl, Hb.out _ _⟩
end Go.Proofs.YtdgedclpaplgoaaDoor.taint
namespace Go.Proofs.YtdgedclpaplgoaaDoor.flt
open Go Go.RowKit
set_option linter.unusedVariables false

/-- The first append of the region: onto a new slice that is empty. -/
theorem step_first {P : Program} {ops : Array Oper} {o : Oper} {a : Act} {X wd : World} {K : Act → World → Prop} {Q : Exit → Act → World → Prop} {E : Prop}
    (hg : o.guard = none) (s x : Operand) (t : TypeId) (hop : o.op = Op.call { callee := Callee.builtin Builtin.append, args := #[s, x], argTypes := #[t, t] })
    (e : TypeId) (i : TypeInfo) (z : Value) (size bytes : Nat) (ht : P.underlying t = some (.slice e)) (hi : P.info? e = some i) (hz : i.zero = some z)
    (hsize : i.size = size) (hby : i.bytes = bytes) (hzs : z.cells.size = size) (hsz : 0 < size) (hbb : bytes ≤ 1000)
    (b : Nat) (hs : a.eval s = .slice (some ⟨b, 0, none⟩) 0 0) (hX : Below wd.heap.size wd X) (hown : X.ownsRow wd.heap.size e size (.slice (some ⟨b, 0, none⟩) 0 0) 0 [])
    (A : Option Addr) (k c : Nat) (news : List Value) (hx : a.eval x = .slice A k c) (hr : RdK wd A k size news) (h1 : ∀ u ∈ news, u.oneCell' = true) (hk : k ≤ 64)
    (hK : ∀ v' w', w'.ownsRow wd.heap.size e size v' k news → Below wd.heap.size wd w' → X.heap.size ≤ w'.heap.size → (∀ q, q < X.heap.size → q ≠ b → w'.heap[q]? = X.heap[q]?) → K (a.put o.dst v') w') :
    if Region.wanted o (yielded ops a.tmps) = true then Oper.wp P o a X K Q else E := by
  have hbb2 : (0 + k) * bytes ≤ 140737488355328 := Nat.le_trans (Nat.mul_le_mul (show 0 + k ≤ 64 by omega) hbb) (by decide)
  refine step_append_rdk hg s x t hop wd.heap.size e i z size bytes ht hi hz hsize hby hzs hsz _ 0 [] hs hown A k c news hx (hr.below hX) h1 (by unfold maxLen; omega) hbb2 hX.size ?_
  intro v' w' h1 h2 h3
  rw [Nat.zero_add, List.nil_append] at h1
  refine hK v' w' h1 (hX.grown h2 hX.size (fun q hq => (hown.lt q hq).1)) h2.size (fun q hq hb => h2.block q hq (fun e => hb (by simp [Value.ownBlock] at e; omega)))
/-- The second one: of one element. -/
theorem step_second {P : Program} {ops : Array Oper} {o : Oper} {a : Act} {Y wd : World} {K : Act → World → Prop} {Q : Exit → Act → World → Prop} {E : Prop}
    (hg : o.guard = none) (s x : Operand) (t : TypeId) (hop : o.op = Op.call { callee := Callee.builtin Builtin.append, args := #[s, x], argTypes := #[t, t] })
    (e : TypeId) (i : TypeInfo) (z : Value) (size bytes : Nat) (ht : P.underlying t = some (.slice e)) (hi : P.info? e = some i) (hz : i.zero = some z)
    (hsize : i.size = size) (hby : i.bytes = bytes) (hzs : z.cells.size = size) (hsz : 0 < size) (hbb : bytes ≤ 1000)
    (v : Value) (k : Nat) (news us : List Value) (hs : a.eval s = v) (hY : Below wd.heap.size wd Y) (hown : Y.ownsRow wd.heap.size e size v k news)
    (A : Option Addr) (hx : a.eval x = .slice A 1 1) (hr : RdK Y A 1 size us) (h1 : ∀ u ∈ us, u.oneCell' = true) (hk : k ≤ 64)
    (hK : ∀ v' w', w'.ownsRow wd.heap.size e size v' (k + 1) (news ++ us) → Below wd.heap.size wd w' → K (a.put o.dst v') w') :
    if Region.wanted o (yielded ops a.tmps) = true then Oper.wp P o a Y K Q else E := by
  have hbb2 : (k + 1) * bytes ≤ 140737488355328 := Nat.le_trans (Nat.mul_le_mul (show k + 1 ≤ 65 by omega) hbb) (by decide)
  refine step_append_rdk hg s x t hop wd.heap.size e i z size bytes ht hi hz hsize hby hzs hsz v k _ hs hown A 1 1 us hx hr h1 (by unfold maxLen; omega) hbb2 hY.size ?_
  intro v' w' h1 h2 h3
  exact hK v' w' h1 (hY.grown h2 hY.size (fun q hq => (hown.lt q hq).1))
theorem bel1 (w : World) (o : Obj) : Below w.heap.size w ((w.alloc o).drew) := ((Below.refl _ _).alloc (Nat.le_refl _) _).drew
theorem bel2 (w : World) (o p : Obj) : Below w.heap.size w (((w.alloc o).alloc p).drew) := (((Below.refl _ _).alloc (Nat.le_refl _) _).alloc (by simp) _).drew
section
variable (e : TypeId) (k : Nat)
theorem lit1 (w : World) : ((w.alloc (.cells #[] e)).drew).ownsRow w.heap.size e k (.slice (some ⟨w.heap.size, 0, none⟩) 0 0) 0 [] :=
  World.ownsRow_lit w #[] 0 (Nat.le_refl _) (by simp [maxLen]) (by simp)
theorem lit2 (w : World) (p : Obj) : (((w.alloc (.cells #[] e)).alloc p).drew).ownsRow w.heap.size e k (.slice (some ⟨w.heap.size, 0, none⟩) 0 0) 0 [] :=
  own_below' (World.ownsRow_lit w #[] 0 (Nat.le_refl _) (by simp [maxLen]) (by simp)) ((Below.refl _ _).alloc (Nat.le_refl _) p).drew
theorem lit3 (w : World) (p : Obj) : (((w.alloc p).alloc (.cells #[] e)).drew).ownsRow w.heap.size e k (.slice (some ⟨w.heap.size + 1, 0, none⟩) 0 0) 0 [] := by
  have h : w.heap.size + 1 = (w.alloc p).heap.size := by simp
  rw [h]
  exact own_lower' (World.ownsRow_lit (w.alloc p) #[] 0 (Nat.le_refl _) (by simp [maxLen]) (by simp)) (by simp)
end
theorem rdk_row {w : World} {b k : Nat} {e : TypeId} {xs : List Value} (hx : xs.length = k) (h : w.heap[b]? = some (.cells xs.toArray e (0, 0))) : RdK w (some ⟨b, 0, none⟩) 1 k xs := by
  refine ⟨by omega, fun _ => ⟨b, 0, rfl, heap_lt h, fun j u hu => ?_⟩⟩
  rw [Nat.zero_add, cell_of_row _ _ _ _ _ _ h]
  simpa using hu
theorem rdk2 {w w' : World} {o : Obj} {k : Nat} {e : TypeId} {xs : List Value} (hx : xs.length = k) (h : ∀ q, q < (((w.alloc o).alloc (.cells xs.toArray e)).drew).heap.size → q ≠ w.heap.size → w'.heap[q]? = (((w.alloc o).alloc (.cells xs.toArray e)).drew).heap[q]?) : RdK w' (some ⟨w.heap.size + 1, 0, none⟩) 1 k xs := by
  refine rdk_row (e := e) hx ((h _ (by show _ < ((w.alloc o).alloc _).heap.size; simp) (by omega)).trans ?_)
  have := heap_alloc_new (w.alloc o) (.cells xs.toArray e)
  have e : (w.alloc o).heap.size = w.heap.size + 1 := by simp
  rw [e] at this
  exact this
theorem rdk3 {w w' : World} {o : Obj} {k : Nat} {e : TypeId} {xs : List Value} (hx : xs.length = k) (h : ∀ q, q < (((w.alloc (.cells xs.toArray e)).alloc o).drew).heap.size → q ≠ w.heap.size + 1 → w'.heap[q]? = (((w.alloc (.cells xs.toArray e)).alloc o).drew).heap[q]?) : RdK w' (some ⟨w.heap.size, 0, none⟩) 1 k xs := by
  refine rdk_row (e := e) hx ((h _ (by show _ < ((w.alloc _).alloc o).heap.size; simp <;> omega) (by omega)).trans ?_)
  have e2 : w.heap.size < (w.alloc (.cells xs.toArray e)).heap.size := by simp
  exact (Below.heap_alloc (w.alloc (.cells xs.toArray e)) o w.heap.size e2).trans (heap_alloc_new w _)
theorem rdk_lit {k : Nat} (w : World) (e : TypeId) (xs : List Value) (hx : xs.length = k) : RdK (w.alloc (.cells xs.toArray e)) (some ⟨w.heap.size, 0, none⟩) 1 k xs := rdk_row hx (heap_alloc_new w _)
end Go.Proofs.YtdgedclpaplgoaaDoor.flt
namespace Go.Proofs.YtdgedclpaplgoaaDoor.need
open Go Go.RowKit dedup
set_option linter.unusedVariables false

theorem sum_ins {α : Type} (lt : α → α → Bool) (f : α → Nat) (x : α) : ∀ S : List α, wsum f (insD lt x S) ≤ f x + wsum f S
  | [] => by simp [insD, wsum]
  | y :: r => by
    have ih := sum_ins lt f x r
    rw [insD]
    split
    · simp only [wsum, List.map_cons, List.sum_cons] at ih ⊢; omega
    split
    · simp only [wsum, List.map_cons, List.sum_cons]; omega
    · simp only [wsum, List.map_cons, List.sum_cons]; omega
theorem sum_dsort {α : Type} (lt : α → α → Bool) (f : α → Nat) (l : List α) : wsum f (dsort lt l) ≤ wsum f l := by
  suffices h : ∀ (l acc : List α), wsum f (l.foldl (fun acc x => insD lt x acc) acc) ≤ wsum f acc + wsum f l by simpa [dsort, wsum] using h l []
  intro l
  induction l with
  | nil => intro acc; simp [wsum]
  | cons x l ih =>
    intro acc
    have h1 := ih (insD lt x acc)
    have h2 := sum_ins lt f x acc
    simp only [List.foldl_cons]
    have e : wsum f (x :: l) = f x + wsum f l := by simp [wsum]
    omega
end Go.Proofs.YtdgedclpaplgoaaDoor.need
namespace Go.Proofs.YtdgedclpaplgoaaDoor.taint
open Go.ChangeShapes Go.WideShapes Go.ChangeAt Go.RowKit ty lab need
set_option linter.unusedVariables false

set_option maxRecDepth 100000 in
set_option maxHeartbeats 4000000 in
theorem impl_lab (a b : ByteArray) (n : Int) (w : World) (ha : a.size ≤ maxLen) (hb : b.size ≤ maxLen) :
    Calls Tryd.prog 137 #[.agg #[.string a, .string b, .int .i64 n]] w fun e w' => e = .returned (.bool (yes (KeyP a ∧ ValP b))) ∧ Below w.heap.size w w' := by
  have HL := Lib.hid (fun w' => impl_label ⟨a, b⟩ w' ⟨ha, hb⟩)
  simp only at HL
  generalize yes (KeyP a ∧ ValP b) = R at HL
  clear ha hb
  go_enter Tryd.func137, Tryd.ntmps137
  go_wp2_with fail
  refine (HL.out _).mono ?_
  rintro e w1 ⟨rfl, hb⟩
  go_wp2_with fail
  go_ret
  exact ⟨rfl, (Below.refl _ _).alloc (Nat.le_refl _) _ |>.trans (hb.mono (by simp))⟩
set_option maxRecDepth 100000 in
theorem impl_eff (a b : ByteArray) (n : Int) (w : World) :
    Calls Tryd.prog 138 #[.agg #[.string a, .string b, .int .i64 n]] w fun e w' => e = .returned (.bool (yes (1 ≤ n ∧ n ≤ 2))) ∧ Below w.heap.size w w' := by
  have Hb : Hid (∀ o : Obj, Below w.heap.size w (w.alloc o)) := fun o => (Below.refl _ _).alloc (Nat.le_refl _) o
  by_cases h1 : n = 1
  · rw [yes_t (by omega)]
    subst h1
    go_enter Tryd.func138, Tryd.ntmps138
    go_wp2_with fail
    go_ret
    exact ⟨rfl, Hb.out _⟩
  have e1 : (n == 1) = false := beq_eq_false_iff_ne.2 h1
  by_cases h2 : n = 2
  · rw [yes_t (by omega)]
    subst h2
    clear h1 e1
    go_enter Tryd.func138, Tryd.ntmps138
    go_wp2_with fail
    go_ret
    exact ⟨rfl, Hb.out _⟩
  have e2 : (n == 2) = false := beq_eq_false_iff_ne.2 h2
  rw [yes_f (by omega)]
  clear h1 h2
  go_enter Tryd.func138, Tryd.ntmps138
  go_wp2_with fail
  go_ret
  exact ⟨rfl, Hb.out _⟩
end Go.Proofs.YtdgedclpaplgoaaDoor.taint
namespace Go.Proofs.YtdgedclpaplgoaaDoor.taint
open Go.ChangeShapes Go.WideShapes Go.ChangeAt Go.RowKit ty lab
set_option linter.unusedVariables false

set_option maxRecDepth 100000 in
theorem impl_ft (x : Taint) (w : World) :
    Calls Tryd.prog 93 #[.agg #[.string x.key, .string x.value, .int .i64 x.effect]] w fun e w' => e = .returned (.agg #[.string x.key, .string x.value, .int .i64 x.effect]) ∧ Gr w w' := by
  obtain ⟨key, value, effect⟩ := x
  have Hg : Hid (∀ a b : Obj, Gr w ((w.alloc a).alloc b)) := fun a b => ((Gr.refl w).alloc a).alloc b
  go_enter Tryd.func93, Tryd.ntmps93
  go_wp2_with fail
  refine bodyPost_ret (v := .agg #[.string key, .string value, .int .i64 effect]) ?_ rfl ⟨rfl, Hg.out _ _⟩
  have hrow := heap_alloc_new (w.alloc (.cells #[.string key, .string value, .int .i64 effect] 83)) (.cells #[.string key, .string value, .int .i64 effect] 124)
  have hs : (w.alloc (.cells #[.string key, .string value, .int .i64 effect] 83)).heap.size = w.heap.size + 1 := by simp
  rw [hs] at hrow
  exact results_cell_row rfl _ _ (w.heap.size + 1) _ #[.string key, .string value, .int .i64 effect] (0, 0) _ rfl hrow Tryd.underlying124 rfl (by kernel_rfl)
set_option maxRecDepth 100000 in
theorem impl_fo (x : Tolerance) (w : World) :
    Calls Tryd.prog 100 #[.agg #[.string x.key, .bool x.equal, .string x.value, .int .i64 x.effect]] w fun e w' => e = .returned (.agg #[.string x.key, .string x.value, .int .i64 x.effect, .bool x.equal]) ∧ Gr w w' := by
  obtain ⟨key, equal, value, effect⟩ := x
  have Hg : Hid (∀ a b : Obj, Gr w ((w.alloc a).alloc b)) := fun a b => ((Gr.refl w).alloc a).alloc b
  go_enter Tryd.func100, Tryd.ntmps100
  go_wp2_with fail
  refine bodyPost_ret (v := .agg #[.string key, .string value, .int .i64 effect, .bool equal]) ?_ rfl ⟨rfl, Hg.out _ _⟩
  have hrow := heap_alloc_new (w.alloc (.cells #[.string key, .bool equal, .string value, .int .i64 effect] 92)) (.cells #[.string key, .string value, .int .i64 effect, .bool equal] 132)
  have hs : (w.alloc (.cells #[.string key, .bool equal, .string value, .int .i64 effect] 92)).heap.size = w.heap.size + 1 := by simp
  rw [hs] at hrow
  exact results_cell_row rfl _ _ (w.heap.size + 1) _ #[.string key, .string value, .int .i64 effect, .bool equal] (0, 0) _ rfl hrow Tryd.underlying132 rfl (by kernel_rfl)
theorem impl_fl (a b : Bool) (w : World) : Calls Tryd.prog 102 #[.bool a, .bool b] w fun e w' => e = .returned (.int .i64 (cmpY a b)) ∧ w = w' := by
  cases a <;> cases b <;>
  · go_enter Tryd.func102, Tryd.ntmps102
    go_wp2_with fail
    go_ret
    exact ⟨rfl, rfl⟩
end Go.Proofs.YtdgedclpaplgoaaDoor.taint
namespace Go.Proofs.YtdgedclpaplgoaaDoor
open Go Go.RowKit

def RowE (e : TypeId) (w : World) (g : Nat) (us : List Value) : Prop := w.heap[g]? = some (.cells us.toArray e (0, 0))
theorem RowE.below {e : TypeId} {w a : World} {g : Nat} {us : List Value} (h : RowE e w g us) (k : Below w.heap.size w a) : RowE e a g us := heap_kept k (heap_lt h) h
theorem RowE.cell {e : TypeId} {w : World} {g : Nat} {us : List Value} (h : RowE e w g us) (j : Nat) (u : Value) (hj : us[j]? = some u) : w.cell? ⟨g, j, none⟩ = some u := by
  rw [cell_of_row w _ j _ _ _ h]
  simpa using hj
theorem RowE.new (e : TypeId) (w : World) (us : List Value) : RowE e (w.alloc (.cells us.toArray e)) w.heap.size us := heap_alloc_new w _
theorem RowE.alloc {e e2 : TypeId} {w : World} {g : Nat} {us vs : List Value} (h : RowE e w g us) : RowE e (w.alloc (.cells vs.toArray e2)) g us := h.below ((Below.refl _ _).alloc (Nat.le_refl _) _)
theorem RowE.frozen {e : TypeId} {w : World} {g : Nat} {us : List Value} (h : RowE e w g us) (j : Nat) : w.frozen? ⟨g, j, none⟩ = false := by
  unfold RowE at h
  simp [World.frozen?, h]
theorem RowE.put {e : TypeId} {w : World} {g : Nat} {us : List Value} (h : RowE e w g us) (j : Nat) (v : Value) : RowE e (w.setCell ⟨g, j, none⟩ v) g (us.set j v) := by
  have := heap_setCell_same w g j us.toArray e v h
  unfold RowE
  rw [this]
  simp
theorem RowE.other {e : TypeId} {w : World} {g x j : Nat} {v : Value} {us : List Value} (h : RowE e w x us) (hx : x ≠ g) : RowE e (w.setCell ⟨g, j, none⟩ v) x us :=
  (Below.heap_setCell w ⟨g, j, none⟩ v x hx).trans h
theorem three_of {us : List Value} (h : us.length = 3) : ∃ a b c, us = [a, b, c] := by
  match us, h with
  | [a, b, c], _ => exact ⟨a, b, c, rfl⟩
theorem four_of {us : List Value} (h : us.length = 4) : ∃ a b c d, us = [a, b, c, d] := by
  match us, h with
  | [a, b, c, d], _ => exact ⟨a, b, c, d, rfl⟩
end Go.Proofs.YtdgedclpaplgoaaDoor
