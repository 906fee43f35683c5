/- Merged: FlT DrawF DrawX TyTaint FlTaint DrawTt TyTolerance. -/
import Derived.Test.YtdgedclpaplgoaaGreatDoorGA5
import Derived.Test.YtdgedclpaplgoaaGreatDoorGA3
import Derived.Test.YtdgedclpaplgoaaGreatDoorGA19
import Derived.Deep.WholeRow
import Derived.Test.YtdgedclpaplgoaaGreatDoorGA4
import Derived.Test.YtdgedclpaplgoaaGreatDoorGA0
namespace Go.Proofs.YtdgedclpaplgoaaGreatDoor.flt
open Go Go.RowKit
set_option linter.unusedVariables false
variable {α : Type} {enc : α → List Value} {k : Nat}

theorem take_flat (hk : ∀ x, (enc x).length = k) (l : List α) (j : Nat) : (l.flatMap enc).take (j * k) = (l.take j).flatMap enc := by
  by_cases h : j ≤ l.length
  · have e : l.flatMap enc = (l.take j).flatMap enc ++ (l.drop j).flatMap enc := by rw [← List.flatMap_append, List.take_append_drop]
    have e2 : j * k = ((l.take j).flatMap enc).length := by rw [flat_length' hk, List.length_take, Nat.min_eq_left h]
    rw [e, e2, List.take_left]
  · rw [List.take_of_length_le (by rw [flat_length' hk]; exact Nat.mul_le_mul_right _ (by omega)), List.take_of_length_le (by omega)]
theorem drop_flat (hk : ∀ x, (enc x).length = k) (l : List α) (j : Nat) : (l.flatMap enc).drop (j * k) = (l.drop j).flatMap enc := by
  by_cases h : j ≤ l.length
  · have e : l.flatMap enc = (l.take j).flatMap enc ++ (l.drop j).flatMap enc := by rw [← List.flatMap_append, List.take_append_drop]
    have e2 : j * k = ((l.take j).flatMap enc).length := by rw [flat_length' hk, List.length_take, Nat.min_eq_left h]
    rw [e, e2, List.drop_left]
  · rw [List.drop_of_length_le (by rw [flat_length' hk]; exact Nat.mul_le_mul_right _ (by omega)), List.drop_of_length_le (by omega)]; rfl
theorem setR_eq : ∀ (vs xs : List Value) (o : Nat), o + vs.length ≤ xs.length → setR xs o vs = xs.take o ++ vs ++ xs.drop (o + vs.length)
  | [], xs, o, _ => by simp [setR]
  | v :: r, xs, o, h => by
    simp only [List.length_cons] at h
    rw [setR, setR_eq r _ _ (by simp; omega), List.take_succ_eq_append_getElem (by simp; omega), List.take_set_of_le (Nat.le_refl _), List.getElem_set_self, List.drop_set_of_lt (by omega)]
    simp only [List.length_cons, List.append_assoc, List.cons_append, List.nil_append]
    rw [show o + 1 + r.length = o + (r.length + 1) by omega]
theorem set_flat (hk : ∀ x, (enc x).length = k) (l : List α) (j : Nat) (x : α) (h : j < l.length) : setR (l.flatMap enc) (j * k) (enc x) = (l.set j x).flatMap enc := by
  have h2 : j * k + k ≤ l.length * k := by rw [← Nat.succ_mul]; exact Nat.mul_le_mul_right _ h
  rw [setR_eq _ _ _ (by rw [flat_length' hk, hk]; exact h2), hk, take_flat hk, show j * k + k = (j + 1) * k from (Nat.succ_mul j k).symm, drop_flat hk, List.set_eq_take_append_cons_drop, if_pos h, List.flatMap_append, List.flatMap_cons, List.append_assoc]
/-- One cell of a slice of the call's own. -/
theorem cell_of {w : World} {B g c n : Nat} {e : TypeId} {l : List α} (hk : ∀ x, (enc x).length = k) (h : w.ownsRow B e k (.slice (some ⟨g, 0, none⟩) n c) n (l.flatMap enc)) {j i : Nat} (hj : j < l.length) (hi : i < k) {u : Value} (hu : (enc l[j])[i]? = some u) : w.cell? ⟨g, j * k + i, none⟩ = some u := by
  have h1 := h.cells (g := g) rfl (j * k + i) u (by rw [flat_get' hk l j i _ (List.getElem?_eq_getElem hj) hi]; exact hu)
  rwa [Addr.add_lit, Nat.zero_add] at h1
theorem ones_flat (h1 : ∀ x, ∀ u ∈ enc x, u.oneCell' = true) (l : List α) : ∀ u ∈ l.flatMap enc, u.oneCell' = true := fun u hu => by
  obtain ⟨x, _, hx⟩ := List.mem_flatMap.1 hu
  exact h1 x u hx
/-- The elements of a slice that came in. -/
theorem rdk_of_els {row : α → List C} {Wf : α → Prop} (hk : ∀ x, (enc x).length = k) (k0 : 0 < k) (hop : ∀ (w : World) (f : Nat) (us : List Value) (x : α), LiesS w f us (row x) → us = enc x ∧ Wf x) {w : World} {f : Nat} {A : Option Addr} {l : List α} (h : ElsAt row w f A l k) : RdK w A l.length k (l.flatMap enc) ∧ ∀ x ∈ l, Wf x := by
  refine ⟨⟨flat_length' hk l, fun hm => ?_⟩, fun x hx => ?_⟩
  · obtain ⟨g, o, hA, hg, hc⟩ := h hm
    refine ⟨g, o, hA, hg, fun j u hu => ?_⟩
    have hj : j < l.length * k := by
      have := (List.getElem?_eq_some_iff.1 hu).1
      rwa [flat_length' hk] at this
    have e : j / k * k + j % k = j := Nat.div_add_mod' j k
    have hi : j / k < l.length := (Nat.div_lt_iff_lt_mul k0).2 hj
    obtain ⟨us, h1, h2, h3⟩ := hc (j / k) _ (List.getElem?_eq_getElem hi)
    obtain ⟨rfl, _⟩ := hop _ _ _ _ h3
    rw [← e] at hu
    rw [flat_get' hk l (j / k) (j % k) _ (List.getElem?_eq_getElem hi) (Nat.mod_lt _ k0)] at hu
    have := h2 (j % k) u hu
    rwa [Nat.add_assoc, e] at this
  · obtain ⟨i, hi, rfl⟩ := List.getElem_of_mem hx
    obtain ⟨g, o, hA, hg, hc⟩ := h (by omega)
    obtain ⟨us, h1, h2, h3⟩ := hc i _ (List.getElem?_eq_getElem hi)
    exact (hop _ _ _ _ h3).2
theorem owns_vals {row : α → List C} {Wf : α → Prop} {w : World} {B f : Nat} (hown : ∀ x : α, Wf x → OwnS w B (f + 1) (enc x) (row x) []) : ∀ l : List α, (∀ x ∈ l, Wf x) → OwnS w B (f + 1) (l.flatMap enc) (l.flatMap row) []
  | [], _ => OwnS.nil
  | x :: l, h => by
    rw [List.flatMap_cons, List.flatMap_cons]
    exact (hown x (h x List.mem_cons_self)).append (owns_vals hown l fun y hy => h y (List.mem_cons_of_mem _ hy))
/-- An own row of flat structs is an owned slice. -/
theorem own_vals {row : α → List C} {Wf : α → Prop} {w : World} {B : Nat} {e : TypeId} {v : Value} {l : List α} (hr : ∀ x, (row x).length = k) (hown : ∀ x : α, Wf x → OwnS w B 1 (enc x) (row x) []) (h : w.ownsRow B e k v l.length (l.flatMap enc)) (hw : ∀ x ∈ l, Wf x) : ∃ F, Own w B 2 v (.sl k l.length (l.flatMap row)) F ∧ F.Nodup ∧ ∀ x ∈ F, B ≤ x ∧ x < w.heap.size :=
  OwnRow.own ⟨l.flatMap enc, [], h, by rw [flat_length' hr], owns_vals (f := 0) hown l hw, List.nodup_nil, fun x hx => by cases hx⟩
/-- Behind the sort of an own row: the pairwise order out of the sort's own words. -/
theorem own_pos {w : World} {B : Nat} {e : TypeId} {size n : Nat} {v : Value} {xs : List Value} (h : w.ownsRow B e size v n xs) (hn : 0 < n) : ∃ g c, v = .slice (some ⟨g, 0, none⟩) n c := by
  rcases h.2 with ⟨_, h⟩ | ⟨g, cap, cur, rfl, _⟩
  · omega
  · exact ⟨g, cap, rfl⟩
end Go.Proofs.YtdgedclpaplgoaaGreatDoor.flt
namespace Go.Proofs.YtdgedclpaplgoaaGreatDoor.draw
open Go Go.RowKit
set_option linter.unusedVariables false
section
variable {α : Type} {enc : α → List Value} {row : α → List C} {k : Nat}
/-- A list of the call's own is handed back; nothing but the cursor's block (and new blocks) turns. -/
def GotF (k : Nat) (row : α → List C) (P : List α → Prop) (c : Nat) (A : Option Addr) (len cap : Nat) (z : Nat → Int) (w : World) (e : Ending) (w' : World) : Prop :=
  ∃ (l : List α) (v : Value) (f : Nat) (F : List Nat), P l ∧ e = .returned v ∧ Own w' w.heap.size (f + 1) v (.sl k l.length (l.flatMap row)) F ∧ F.Nodup ∧ Cur w' c A len cap z ∧ w.grownBy w' (some c)
/-- Own blocks are kept where only the cursor's block turns. -/
theorem own_curF {w w' : World} {c B f : Nat} {v : Value} {d : C} {F : List Nat} (h : Own w B f v d F) (hB : c < B) (hg : w.grownBy w' (some c)) : Own w' B f v d F :=
  h.kept fun x hx => hg.block x (h.range x hx).2 (fun e => by have := (h.range x hx).1; injection e with e; omega)
theorem row_curF {w w' : World} {B c k : Nat} {e : TypeId} {v : Value} {n : Nat} {xs : List Value} (h : w.ownsRow B e k v n xs) (hB : c < B) (hg : w.grownBy w' (some c)) : w'.ownsRow B e k v n xs :=
  h.kept hg (by
    cases hv : v.ownBlock with
    | none => exact .inl rfl
    | some q => exact .inr (fun e => by
        have := (h.lt q hv).1
        injection e with e
        omega))
/-- A struct just laid reads as a slice of one. -/
theorem rdk_at {w : World} {g : Nat} {e : TypeId} {xs : List Value} (h : w.heap[g]? = some (.cells xs.toArray e (0, 0))) (hx : xs.length = k) : RdK w (some ⟨g, 0, none⟩) 1 k xs := by
  refine ⟨by omega, fun _ => ⟨g, 0, rfl, heap_lt h, fun j u hu => ?_⟩⟩
  rw [Nat.zero_add, cell_of_row _ _ _ _ _ _ h]
  simpa using hu
theorem rdk_lay (w : World) (e : TypeId) (xs : List Value) (hx : xs.length = k) : RdK (w.alloc (.cells xs.toArray e)) (some ⟨w.heap.size, 0, none⟩) 1 k xs := rdk_at (heap_alloc_new w _) hx
/-- An owned list is a row of some element type. -/
theorem own_rowF (hr : ∀ x, (row x).length = k) (he : ∀ x, (enc x).length = k) (hfl : ∀ (w : World) (f : Nat) (x : α) (j : Nat) (d : C) (u : Value), (row x)[j]? = some d → Lies w f u d → (enc x)[j]? = some u)
    {w : World} {B f : Nat} {v : Value} {l : List α} {F : List Nat} (t0 : TypeId) (h : Own w B (f + 1) v (.sl k l.length (l.flatMap row)) F) : ∃ e, w.ownsRow B e k v l.length (l.flatMap enc) := by
  obtain ⟨hl, ⟨rfl, hn, rfl⟩ | ⟨g, c, cur, e, Fs, rfl, h1, h2, h3, h4, hz, hF, h5, h6⟩⟩ := h
  · have : l = [] := List.eq_nil_of_length_eq_zero hn
    subst this
    exact ⟨t0, World.ownsRow_nil _ _ _ _⟩
  · refine ⟨e, flat_length' he l, .inr ⟨g, c, cur, rfl, h3, h4, h1, h2, hz, ?_⟩⟩
    refine List.ext_getElem? fun m => ?_
    by_cases hm : m < l.length * k
    · rw [List.getElem?_take_of_lt hm]
      have hd : m < (l.flatMap row).length := by rw [hl]; exact hm
      have hcs : m < cur.size := by rw [hz]; exact Nat.lt_of_lt_of_le hm (Nat.mul_le_mul_right _ h1)
      have hfs : m < Fs.length := by rw [h5]; exact hd
      obtain ⟨u, hu, ho⟩ := h6 m _ _ (List.getElem?_eq_getElem hd) (List.getElem?_eq_getElem hfs)
      have k0 : 0 < k := by rcases Nat.eq_zero_or_pos k with h | h; · subst h; simp at hm
                            · exact h
      have hi : m / k < l.length := (Nat.div_lt_iff_lt_mul k0).2 hm
      have e := Nat.div_add_mod' m k
      have r1 := flat_get' hr l (m / k) (m % k) _ (List.getElem?_eq_getElem hi) (Nat.mod_lt _ k0)
      have r2 := flat_get' he l (m / k) (m % k) _ (List.getElem?_eq_getElem hi) (Nat.mod_lt _ k0)
      rw [e] at r1 r2
      rw [List.getElem?_eq_getElem hd] at r1
      rw [r2, hfl _ _ _ _ _ _ r1.symm ho.lies, Array.getElem?_toList]
      exact hu
    · rw [List.getElem?_eq_none (by rw [List.length_take]; omega), List.getElem?_eq_none (by rw [flat_length' he]; omega)]
/-- What stands beside the cursor while a list grows. -/
structure StF (k : Nat) (enc : α → List Value) (w : World) (c : Nat) (A : Option Addr) (len cap : Nat) (z : Nat → Int) (e0 : TypeId) (v : Value) (l : List α) (a : World) : Prop where
  cur : Cur a c A len cap z
  grown : w.grownBy a (some c)
  row : a.ownsRow w.heap.size e0 k v l.length (l.flatMap enc)
variable {w a b : World} {c : Nat} {A : Option Addr} {len cap : Nat} {z : Nat → Int} {e0 e1 : TypeId} {v : Value} {l : List α}
theorem StF.turn (h : StF k enc w c A len cap z e0 v l a) (hcw : c < w.heap.size) (hc : Cur b c A len cap z) (hg : a.grownBy b (some c)) : StF k enc w c A len cap z e0 v l b :=
  ⟨hc, grown_trans h.grown hg, row_curF h.row hcw hg⟩
theorem StF.below (h : StF k enc w c A len cap z e0 v l a) (hcw : c < w.heap.size) (hb : Below a.heap.size a b) : StF k enc w c A len cap z e0 v l b :=
  ⟨h.cur.below (hb.mono h.grown.size) hcw, draw.grown_below h.grown (hb.mono h.grown.size), own_below' h.row hb⟩
theorem StF.alloc (h : StF k enc w c A len cap z e0 v l a) (hcw : c < w.heap.size) (o : Obj) : StF k enc w c A len cap z e0 v l (a.alloc o) :=
  h.below hcw ((Below.refl _ _).alloc (Nat.le_refl _) o)
theorem StF.more {v7 : Value} {x : α} {o : Obj} (h : StF k enc w c A len cap z e0 v l a) (hcw : c < w.heap.size)
    (hown : b.ownsRow w.heap.size e1 k v7 (l.length + 1) (l.flatMap enc ++ enc x)) (hg : (a.alloc o).grownBy b v.ownBlock) : StF k enc w c A len cap z e1 v7 (l ++ [x]) b := by
  have hb7 : Below w.heap.size a b := Below.grown ((Below.refl w.heap.size a).alloc h.grown.size o) hg (by have := h.grown.size; simp; omega) (fun b hb => (h.row.lt b hb).1)
  exact ⟨h.cur.below hb7 hcw, draw.grown_below h.grown hb7, by rw [List.flatMap_append, List.length_append, List.flatMap_cons, List.flatMap_nil, List.append_nil]; exact hown⟩
theorem StF.got {Wf : α → Prop} {P : List α → Prop} (hr : ∀ x, (row x).length = k) (hown : ∀ x : α, Wf x → OwnS a w.heap.size 1 (enc x) (row x) []) (h : StF k enc w c A len cap z e0 v l a) (hP : P l) (ht : ∀ x ∈ l, Wf x) : GotF k row P c A len cap z w (.returned v) a := by
  obtain ⟨F, ho, hn, _⟩ := flt.own_vals hr hown h.row ht
  exact ⟨l, v, 1, F, hP, rfl, ho, hn, h.cur, h.grown⟩
theorem StF.of_got {f : Nat} {F : List Nat} (hr : ∀ x, (row x).length = k) (he : ∀ x, (enc x).length = k) (hfl : ∀ (w : World) (f : Nat) (x : α) (j : Nat) (d : C) (u : Value), (row x)[j]? = some d → Lies w f u d → (enc x)[j]? = some u)
    (t0 : TypeId) (ho : Own a w.heap.size (f + 1) v (.sl k l.length (l.flatMap row)) F) (hc : Cur a c A len cap z) (hg : w.grownBy a (some c)) : ∃ e, StF k enc w c A len cap z e v l a := by
  obtain ⟨e, h⟩ := own_rowF hr he hfl t0 ho
  exact ⟨e, hc, hg, h⟩
end
end Go.Proofs.YtdgedclpaplgoaaGreatDoor.draw
namespace Go.Proofs.YtdgedclpaplgoaaGreatDoor.draw
open Go Go.RowKit
set_option linter.unusedVariables false

theorem wf_intX {n : Int} (h1 : -1 ≤ n) (h2 : n ≤ 6) : (Lit.int .i64 n).wf = true := by
  have : n = -1 ∨ n = 0 ∨ n = 1 ∨ n = 2 ∨ n = 3 ∨ n = 4 ∨ n = 5 ∨ n = 6 := by omega
  rcases this with rfl | rfl | rfl | rfl | rfl | rfl | rfl | rfl <;> decide
theorem RowE.cur {e : TypeId} {a b : World} {c g : Nat} {us : List Value} (h : RowE e a g us) (hg : a.grownBy b (some c)) (hne : c ≠ g) : RowE e b g us :=
  (hg.block g (heap_lt h) (fun e => hne (by injection e with e; exact e.symm))).trans h
section
variable {α : Type}
/-- A drawn struct is handed back. -/
def GotX (enc : α → List Value) (P : α → Prop) (c : Nat) (A : Option Addr) (len cap : Nat) (z : Nat → Int) (w : World) (e : Ending) (w' : World) : Prop :=
  ∃ x : α, P x ∧ e = .returned (.agg (enc x).toArray) ∧ Cur w' c A len cap z ∧ w.grownBy w' (some c)
/-- The result's box stands beside the cursor. -/
structure Bx0 (w : World) (c : Nat) (A : Option Addr) (len cap : Nat) (z : Nat → Int) (e : TypeId) (zs : List Value) (a : World) : Prop where
  cur : Cur a c A len cap z
  grown : w.grownBy a (some c)
  zero : RowE e a w.heap.size zs
/-- And a box of the call's own. -/
structure Bx1 (w : World) (c : Nat) (A : Option Addr) (len cap : Nat) (z : Nat → Int) (e : TypeId) (zs : List Value) (b : Nat) (us : List Value) (a : World) : Prop where
  cur : Cur a c A len cap z
  grown : w.grownBy a (some c)
  zero : RowE e a w.heap.size zs
  mine : RowE e a b us
variable {w a a' : World} {c : Nat} {A : Option Addr} {len cap : Nat} {z : Nat → Int} {e : TypeId} {zs us : List Value} {b : Nat}
theorem Bx0.new (hc : Cur w c A len cap z) : Bx0 w c A len cap z e zs (w.alloc (.cells zs.toArray e)) :=
  ⟨cur_alloc hc _, grown_alloc _ _ _, RowE.new _ _ _⟩
theorem Bx0.turn (h : Bx0 w c A len cap z e zs a) (hcw : c < w.heap.size) (hc : Cur a' c A len cap z) (hg : a.grownBy a' (some c)) : Bx0 w c A len cap z e zs a' :=
  ⟨hc, grown_trans h.grown hg, RowE.cur h.zero hg (by omega)⟩
theorem Bx0.below (h : Bx0 w c A len cap z e zs a) (hcw : c < w.heap.size) (hb : Below a.heap.size a a') : Bx0 w c A len cap z e zs a' :=
  ⟨h.cur.below (hb.mono h.grown.size) hcw, draw.grown_below h.grown (hb.mono h.grown.size), h.zero.below hb⟩
theorem Bx0.box (h : Bx0 w c A len cap z e zs a) (hcw : c < w.heap.size) : Bx1 w c A len cap z e zs a.heap.size us (a.alloc (.cells us.toArray e)) :=
  let h' := h.below hcw ((Below.refl _ _).alloc (Nat.le_refl _) (.cells us.toArray e))
  ⟨h'.cur, h'.grown, h'.zero, RowE.new _ _ _⟩
theorem Bx0.lt (h : Bx0 w c A len cap z e zs a) : w.heap.size < a.heap.size := heap_lt h.zero
theorem Bx1.turn (h : Bx1 w c A len cap z e zs b us a) (hcw : c < w.heap.size) (hb : w.heap.size < b) (hc : Cur a' c A len cap z) (hg : a.grownBy a' (some c)) : Bx1 w c A len cap z e zs b us a' :=
  ⟨hc, grown_trans h.grown hg, RowE.cur h.zero hg (by omega), RowE.cur h.mine hg (by omega)⟩
theorem Bx1.put (h : Bx1 w c A len cap z e zs b us a) (hcw : c < w.heap.size) (hb : w.heap.size < b) (j : Nat) (v : Value) : Bx1 w c A len cap z e zs b (us.set j v) (a.setCell ⟨b, j, none⟩ v) :=
  have hB : Below b a (a.setCell ⟨b, j, none⟩ v) := (Below.refl b a).setCell (Nat.le_refl _) v
  ⟨h.cur.below hB (by omega), draw.grown_below h.grown (hB.mono (by omega)), RowE.other h.zero (by omega), RowE.put h.mine j v⟩
/-- The result is laid down in its box. -/
theorem Bx0.done {enc : α → List Value} {P : α → Prop} {x : α} (h : Bx0 w c A len cap z e zs a) (hcw : c < w.heap.size) (hP : P x) : GotX enc P c A len cap z w (.returned (.agg (enc x).toArray)) (a.setRow w.heap.size (enc x).toArray) :=
  have hb2 : Below w.heap.size a (a.setRow w.heap.size (enc x).toArray) := setRow_below (Below.refl _ _) (Nat.le_refl _) _
  ⟨x, hP, rfl, h.cur.below hb2 hcw, draw.grown_below h.grown hb2⟩
theorem Bx1.done {enc : α → List Value} {P : α → Prop} {x : α} (h : Bx1 w c A len cap z e zs b us a) (hcw : c < w.heap.size) (hP : P x) : GotX enc P c A len cap z w (.returned (.agg (enc x).toArray)) (a.setRow w.heap.size (enc x).toArray) :=
  Bx0.done (e := e) (zs := zs) ⟨h.cur, h.grown, h.zero⟩ hcw hP
end
end Go.Proofs.YtdgedclpaplgoaaGreatDoor.draw
namespace Go.Proofs.YtdgedclpaplgoaaGreatDoor.ty
open Go Go.RowKit
set_option linter.unusedVariables false

structure Taint where
  key : ByteArray
  value : ByteArray
  effect : Int
namespace Taint
def row (x : Taint) : List C := [.str x.key, .str x.value, .int .i64 x.effect]
theorem row_length (x : Taint) : x.row.length = 3 := rfl
def wt (x : Taint) : Nat := x.key.size + x.value.size
def cost (_ : Taint) : Nat := 3
def mark (_ : Taint) (k : Int) : Taint := ⟨(lawMark.mt k), (lawMark.mt (k + 1)), (k + 2)⟩
def Wf (x : Taint) : Prop := x.key.size ≤ maxLen ∧ x.value.size ≤ maxLen ∧ (Lit.int .i64 x.effect).wf = true
theorem opened {w : World} {f : Nat} {us : List Value} {x : Taint} (h : LiesS w f us x.row) : us = [.string x.key, .string x.value, .int .i64 x.effect] ∧ x.Wf := by
  obtain ⟨v0, _, rfl, l0, h⟩ := h.uncons
  obtain ⟨v1, _, rfl, l1, h⟩ := h.uncons
  obtain ⟨v2, _, rfl, l2, h⟩ := h.uncons
  obtain rfl := h.unnil
  obtain ⟨rfl, w0⟩ := l0.str
  obtain ⟨rfl, w1⟩ := l1.str
  obtain ⟨rfl, w2⟩ := l2.int
  exact ⟨rfl, w0, w1, w2⟩
theorem owned {w : World} {B f : Nat} {x : Taint} (h : x.Wf) : OwnS w B (f + 1) [.string x.key, .string x.value, .int .i64 x.effect] x.row [] := by
  obtain ⟨w0, w1, w2⟩ := h
  exact OwnS.cons (own_str w0) (OwnS.cons (own_str w1) (OwnS.cons (own_int w2) (OwnS.nil)))
theorem lies {w : World} {f : Nat} {x : Taint} (h : x.Wf) : LiesS w (f + 1) [.string x.key, .string x.value, .int .i64 x.effect] x.row := (owned (B := 0) h).lies
theorem flat_of {w : World} {B f : Nat} {us : List Value} {x : Taint} {F : List Nat} (h : OwnS w B f us x.row F) : F = [] := by
  obtain ⟨v0, _, G0, _, rfl, rfl, l0, h⟩ := h.uncons
  obtain ⟨v1, _, G1, _, rfl, rfl, l1, h⟩ := h.uncons
  obtain ⟨v2, _, G2, _, rfl, rfl, l2, h⟩ := h.uncons
  obtain ⟨rfl, rfl⟩ := h.unnil
  obtain rfl := l0.flat trivial
  obtain rfl := l1.flat trivial
  obtain rfl := l2.flat trivial
  rfl
end Taint
theorem of_Taint {α : Type} {vs : List α} (h : vs.length = 3) : ∃ u0 u1 u2, vs = [u0, u1, u2] := by
  match vs, h with
  | [u0, u1, u2], _ => exact ⟨u0, u1, u2, rfl⟩
end Go.Proofs.YtdgedclpaplgoaaGreatDoor.ty
namespace Go.Proofs.YtdgedclpaplgoaaGreatDoor.ty
open Go Go.RowKit
set_option linter.unusedVariables false

def Taint.cells (x : Taint) : List Value := [.string x.key, .string x.value, .int .i64 x.effect]
theorem Taint.cells_len (x : Taint) : x.cells.length = 3 := rfl
theorem Taint.cells_one (x : Taint) : ∀ u ∈ x.cells, u.oneCell' = true := by intro u hu; simp [Taint.cells] at hu; rcases hu with rfl | rfl | rfl <;> rfl
theorem Taint.cells_all (x : Taint) : (#[.string x.key, .string x.value, .int .i64 x.effect] : Array Value).all (·.oneCell') = true := by simp [Value.oneCell']
theorem rdk_Taint {w : World} {f : Nat} {A : Option Addr} {l : List Taint} (h : ElsAt Taint.row w f A l 3) : RdK w A l.length 3 (l.flatMap Taint.cells) ∧ ∀ x ∈ l, x.Wf := flt.rdk_of_els Taint.cells_len (by decide) (fun _ _ _ _ h => Taint.opened h) h
theorem own_Taint {w : World} {B : Nat} {e : TypeId} {v : Value} {l : List Taint} (h : w.ownsRow B e 3 v l.length (l.flatMap Taint.cells)) (hw : ∀ x ∈ l, x.Wf) : ∃ F, Own w B 2 v (.sl 3 l.length (l.flatMap Taint.row)) F ∧ F.Nodup ∧ ∀ x ∈ F, B ≤ x ∧ x < w.heap.size := flt.own_vals Taint.row_length (fun _ h => Taint.owned h) h hw
instance inhFlTaint : Inhabited Taint := ⟨⟨⟨#[]⟩, ⟨#[]⟩, 0⟩⟩
end Go.Proofs.YtdgedclpaplgoaaGreatDoor.ty
namespace Go.Proofs.YtdgedclpaplgoaaGreatDoor.draw
open Go.ChangeShapes Go.WideShapes Go.ChangeAt Go.RowKit ty
set_option linter.unusedVariables false

/-- What is known of a drawn taint. -/
structure TinyT (m : Nat) (x : Taint) : Prop where
  key : x.key.size ≤ m
  value : x.value.size ≤ m
  lo : -1 ≤ x.effect
  hi : x.effect ≤ 4
theorem TinyT.wf {m : Nat} {x : Taint} (h : TinyT m x) (hm : m ≤ 1000) : x.Wf := by
  exact ⟨by have := h.key; unfold maxLen; omega, by have := h.value; unfold maxLen; omega, wf_intX h.lo (by have := h.hi; omega)⟩
theorem TryzsizeTn : (Tryz.prog.info? 44).map (·.size) = some 3 := by kernel_rfl
set_option maxRecDepth 1000000 in
set_option maxHeartbeats 16000000 in
theorem taint_any (c : Nat) (A : Option Addr) (len cap : Nat) (z : Nat → Int) (w : World) (hc : Cur w c A len cap z) :
    Calls Tryz.prog 125 #[.pointer (some ⟨c, 0, none⟩)] w (GotX Taint.cells (TinyT 5) c A len cap z w) := by
  have hclt := hc.lt
  obtain ⟨W, hW⟩ : ∃ W, W = w.alloc (.cells #[.string ⟨#[]⟩, .string ⟨#[]⟩, .int .i64 0] 44) := ⟨_, rfl⟩
  have S0 := Lib.hid (show Bx0 w c A len cap z 44 [.string ⟨#[]⟩, .string ⟨#[]⟩, .int .i64 0] W by rw [hW]; exact Bx0.new hc)
  have HW := Lib.hid hW
  have HC0 := Lib.hid (labKey_any c A len cap z W S0.out.cur)
  clear hc hW
  go_enter Tryz.func125, Tryz.ntmps125
  go_wp2_with fail
  rw [← HW.out]
  go_wp2_with fail
  refine HC0.out.mono ?_
  rintro e w1 ⟨k, hk, rfl, hc1, hg1⟩
  have S1 := Lib.hid (S0.out.turn hclt hc1 hg1)
  have HV := Lib.hid (labVal_any c A len cap z w1 hc1)
  clear hc1 hg1 HC0 S0
  go_wp2_with fail
  refine HV.out.mono ?_
  rintro e w2 ⟨y, hy, rfl, hc2, hg2⟩
  have S2 := Lib.hid (S1.out.turn hclt hc2 hg2)
  have HB := Lib.hid (below_any c A len cap z 2 w2 hc2 (by decide) (by decide))
  clear hc2 hg2 HV S1
  go_wp2_with fail
  refine HB.out.mono ?_
  rintro e w3 ⟨x, hx, rfl, hc3, hg3⟩
  have S3 := Lib.hid (S2.out.turn hclt hc3 hg3)
  have hwx : IntKind.i64.wrap (1 + x) = 1 + x := IntWalk.i64_in _ (by omega)
  obtain ⟨n, hn⟩ : ∃ n, 1 + x = n := ⟨_, rfl⟩
  rw [hn] at hwx
  have hn1 : 1 ≤ n := by omega
  have hn2 : n ≤ 2 := by omega
  clear hc3 hg3 HB S2
  have HR := Lib.hid (S3.out.done (enc := Taint.cells) (P := (TinyT 5)) (x := ⟨k, y, n⟩) hclt (⟨hk, by show y.size ≤ 5; omega, by show -1 ≤ n; omega, by show n ≤ 4; omega⟩))
  have h51 : (w3).heap[w.heap.size]? = some (.cells #[.string ⟨#[]⟩, .string ⟨#[]⟩, .int .i64 0] 44 (0, 0)) := S3.out.zero
  have H51 := Lib.hid h51
  go_wp2_with (first | (refine wpList_store_row rfl 44 _ _ rfl w.heap.size #[.string k, .string y, .int .i64 n] rfl rfl 44 _ h51 TryzsizeTn rfl (by simp [Value.oneCell']) ?_) | fail)
  refine bodyPost_ret (v := .agg #[.string k, .string y, .int .i64 n]) ?_ rfl HR.out
  exact results_cell_row rfl _ _ w.heap.size _ _ (0, 0) _ rfl (setRow_at H51.out) Tryz.underlying44 rfl TryzsizeTn
set_option maxRecDepth 1000000 in
set_option maxHeartbeats 16000000 in
theorem anyTaint_any (c : Nat) (A : Option Addr) (len cap : Nat) (z : Nat → Int) (w : World) (hc : Cur w c A len cap z) :
    Calls Tryz.prog 94 #[.pointer (some ⟨c, 0, none⟩)] w (GotX Taint.cells (TinyT 5) c A len cap z w) := by
  have hclt := hc.lt
  obtain ⟨W, hW⟩ : ∃ W, W = w.alloc (.cells #[.string ⟨#[]⟩, .string ⟨#[]⟩, .int .i64 0] 44) := ⟨_, rfl⟩
  have S0 := Lib.hid (show Bx0 w c A len cap z 44 [.string ⟨#[]⟩, .string ⟨#[]⟩, .int .i64 0] W by rw [hW]; exact Bx0.new hc)
  have HW := Lib.hid hW
  have HC0 := Lib.hid (taint_any c A len cap z W S0.out.cur)
  clear hc hW
  go_enter Tryz.func94, Tryz.ntmps94
  go_wp2_with fail
  rw [← HW.out]
  go_wp2_with fail
  refine HC0.out.mono ?_
  rintro e w1 ⟨t, ht, rfl, hc1, hg1⟩
  have hb1 : w.heap.size < w1.heap.size := heap_lt (RowE.cur S0.out.zero hg1 (by omega))
  have S1 := Lib.hid ((S0.out.turn hclt hc1 hg1).box (us := [.string t.key, .string t.value, .int .i64 t.effect]) hclt)
  obtain ⟨X, hX⟩ : ∃ X, X = w1.alloc (.cells #[.string t.key, .string t.value, .int .i64 t.effect] 44) := ⟨_, rfl⟩
  have HX := Lib.hid hX
  have S2 := Lib.hid (show Bx1 w c A len cap z 44 [.string ⟨#[]⟩, .string ⟨#[]⟩, .int .i64 0] w1.heap.size [.string t.key, .string t.value, .int .i64 t.effect] X by rw [hX]; exact S1.out)
  have HB := Lib.hid (below_any c A len cap z 10 X S2.out.cur (by decide) (by decide))
  obtain ⟨b, hb⟩ : ∃ b, b = w1.heap.size := ⟨_, rfl⟩
  have Hb := Lib.hid hb
  rw [← hb] at hb1 S2
  have ht1 := ht.key
  have ht2 := ht.value
  have ht3 := ht.lo
  have ht4 := ht.hi
  clear hc1 hg1 HC0 S0 S1 hX hb ht
  obtain ⟨k, y, n⟩ := t
  simp only [Taint.cells] at *
  go_wp2_with fail
  rw [← HX.out, ← Hb.out]
  refine HB.out.mono ?_
  rintro e w2 ⟨x, hx, rfl, hc2, hg2⟩
  have S3 := Lib.hid (S2.out.turn hclt hb1 hc2 hg2)
  clear hg2 HB S2
  by_cases x0 : x = 0
  · subst x0
    have HB := Lib.hid (below_any c A len cap z 5 w2 hc2 (by decide) (by decide))
    clear hc2
    go_wp2_with fail
    refine HB.out.mono ?_
    rintro e w3 ⟨m, hm, rfl, hc3, hg3⟩
    have S4 := Lib.hid (S3.out.turn hclt hb1 hc3 hg3)
    have hwm : IntKind.i64.wrap (m - 1) = m - 1 := IntWalk.i64_in _ (by omega)
    obtain ⟨n2, hn2⟩ : ∃ n, m - 1 = n := ⟨_, rfl⟩
    rw [hn2] at hwm
    have hm1 : -1 ≤ n2 := by omega
    have hm2 : n2 ≤ 3 := by omega
    have p2 := S4.out.mine.cell 2 _ rfl
    have f2 := RowE.frozen S4.out.mine 2
    have S5 := Lib.hid (S4.out.put hclt hb1 2 (.int .i64 n2))
    clear hc3 hg3 HB S3 hm
    have HR := Lib.hid (S5.out.done (enc := Taint.cells) (P := (TinyT 5)) (x := ⟨k, y, n2⟩) hclt (⟨ht1, ht2, hm1, by show n2 ≤ 4; omega⟩))
    have h51 : (w3.setCell ⟨b, 2, none⟩ (.int .i64 n2)).heap[w.heap.size]? = some (.cells #[.string ⟨#[]⟩, .string ⟨#[]⟩, .int .i64 0] 44 (0, 0)) := S5.out.zero
    have H51 := Lib.hid h51
    have h52 : (w3.setCell ⟨b, 2, none⟩ (.int .i64 n2)).heap[b]? = some (.cells #[.string k, .string y, .int .i64 n2] 44 (0, 0)) := S5.out.mine
    go_wp2_with (first | (refine wpList_load_row rfl 44 _ rfl b rfl 44 #[.string k, .string y, .int .i64 n2] (0, 0) _ h52 Tryz.underlying44 rfl TryzsizeTn ?_) | (refine wpList_store_row rfl 44 _ _ rfl w.heap.size #[.string k, .string y, .int .i64 n2] rfl rfl 44 _ h51 TryzsizeTn rfl (by simp [Value.oneCell']) ?_) | fail)
    refine bodyPost_ret (v := .agg #[.string k, .string y, .int .i64 n2]) ?_ rfl HR.out
    exact results_cell_row rfl _ _ w.heap.size _ _ (0, 0) _ rfl (setRow_at H51.out) Tryz.underlying44 rfl TryzsizeTn
  have x0' : (x == 0) = false := beq_eq_false_iff_ne.2 x0
  by_cases x1 : x = 1
  · subst x1
    have p0 := S3.out.mine.cell 0 _ rfl
    have f0 := RowE.frozen S3.out.mine 0
    have S5 := Lib.hid (S3.out.put hclt hb1 0 (.string ⟨#[]⟩))
    clear hc2 hx x0
    have HR := Lib.hid (S5.out.done (enc := Taint.cells) (P := (TinyT 5)) (x := ⟨⟨#[]⟩, y, n⟩) hclt (⟨by show (⟨#[]⟩ : ByteArray).size ≤ 5; decide, ht2, ht3, ht4⟩))
    have h51 : (w2.setCell ⟨b, 0, none⟩ (.string ⟨#[]⟩)).heap[w.heap.size]? = some (.cells #[.string ⟨#[]⟩, .string ⟨#[]⟩, .int .i64 0] 44 (0, 0)) := S5.out.zero
    have H51 := Lib.hid h51
    have h52 : (w2.setCell ⟨b, 0, none⟩ (.string ⟨#[]⟩)).heap[b]? = some (.cells #[.string ⟨#[]⟩, .string y, .int .i64 n] 44 (0, 0)) := S5.out.mine
    go_wp2_with (first | (refine wpList_load_row rfl 44 _ rfl b rfl 44 #[.string ⟨#[]⟩, .string y, .int .i64 n] (0, 0) _ h52 Tryz.underlying44 rfl TryzsizeTn ?_) | (refine wpList_store_row rfl 44 _ _ rfl w.heap.size #[.string ⟨#[]⟩, .string y, .int .i64 n] rfl rfl 44 _ h51 TryzsizeTn rfl (by simp [Value.oneCell']) ?_) | fail)
    refine bodyPost_ret (v := .agg #[.string ⟨#[]⟩, .string y, .int .i64 n]) ?_ rfl HR.out
    exact results_cell_row rfl _ _ w.heap.size _ _ (0, 0) _ rfl (setRow_at H51.out) Tryz.underlying44 rfl TryzsizeTn
  have x1' : (x == 1) = false := beq_eq_false_iff_ne.2 x1
  clear hc2 hx x0 x1
  have HR := Lib.hid (S3.out.done (enc := Taint.cells) (P := (TinyT 5)) (x := ⟨k, y, n⟩) hclt (⟨ht1, ht2, ht3, ht4⟩))
  have h51 : (w2).heap[w.heap.size]? = some (.cells #[.string ⟨#[]⟩, .string ⟨#[]⟩, .int .i64 0] 44 (0, 0)) := S3.out.zero
  have H51 := Lib.hid h51
  have h52 : (w2).heap[b]? = some (.cells #[.string k, .string y, .int .i64 n] 44 (0, 0)) := S3.out.mine
  go_wp2_with (first | (refine wpList_load_row rfl 44 _ rfl b rfl 44 #[.string k, .string y, .int .i64 n] (0, 0) _ h52 Tryz.underlying44 rfl TryzsizeTn ?_) | (refine wpList_store_row rfl 44 _ _ rfl w.heap.size #[.string k, .string y, .int .i64 n] rfl rfl 44 _ h51 TryzsizeTn rfl (by simp [Value.oneCell']) ?_) | fail)
  refine bodyPost_ret (v := .agg #[.string k, .string y, .int .i64 n]) ?_ rfl HR.out
  exact results_cell_row rfl _ _ w.heap.size _ _ (0, 0) _ rfl (setRow_at H51.out) Tryz.underlying44 rfl TryzsizeTn
end Go.Proofs.YtdgedclpaplgoaaGreatDoor.draw
namespace Go.Proofs.YtdgedclpaplgoaaGreatDoor.ty
open Go Go.RowKit
set_option linter.unusedVariables false

structure Tolerance where
  key : ByteArray
  equal : Bool
  value : ByteArray
  effect : Int
namespace Tolerance
def row (x : Tolerance) : List C := [.str x.key, .bool x.equal, .str x.value, .int .i64 x.effect]
theorem row_length (x : Tolerance) : x.row.length = 4 := rfl
def wt (x : Tolerance) : Nat := x.key.size + x.value.size
def cost (_ : Tolerance) : Nat := 4
def mark (_ : Tolerance) (k : Int) : Tolerance := ⟨(lawMark.mt k), (decide ((k + 1) % 3 = 0)), (lawMark.mt (k + 2)), (k + 3)⟩
def Wf (x : Tolerance) : Prop := x.key.size ≤ maxLen ∧ x.value.size ≤ maxLen ∧ (Lit.int .i64 x.effect).wf = true
theorem opened {w : World} {f : Nat} {us : List Value} {x : Tolerance} (h : LiesS w f us x.row) : us = [.string x.key, .bool x.equal, .string x.value, .int .i64 x.effect] ∧ x.Wf := by
  obtain ⟨v0, _, rfl, l0, h⟩ := h.uncons
  obtain ⟨v1, _, rfl, l1, h⟩ := h.uncons
  obtain ⟨v2, _, rfl, l2, h⟩ := h.uncons
  obtain ⟨v3, _, rfl, l3, h⟩ := h.uncons
  obtain rfl := h.unnil
  obtain ⟨rfl, w0⟩ := l0.str
  obtain rfl := l1.bool
  obtain ⟨rfl, w2⟩ := l2.str
  obtain ⟨rfl, w3⟩ := l3.int
  exact ⟨rfl, w0, w2, w3⟩
theorem owned {w : World} {B f : Nat} {x : Tolerance} (h : x.Wf) : OwnS w B (f + 1) [.string x.key, .bool x.equal, .string x.value, .int .i64 x.effect] x.row [] := by
  obtain ⟨w0, w2, w3⟩ := h
  exact OwnS.cons (own_str w0) (OwnS.cons own_bool (OwnS.cons (own_str w2) (OwnS.cons (own_int w3) (OwnS.nil))))
theorem lies {w : World} {f : Nat} {x : Tolerance} (h : x.Wf) : LiesS w (f + 1) [.string x.key, .bool x.equal, .string x.value, .int .i64 x.effect] x.row := (owned (B := 0) h).lies
theorem flat_of {w : World} {B f : Nat} {us : List Value} {x : Tolerance} {F : List Nat} (h : OwnS w B f us x.row F) : F = [] := by
  obtain ⟨v0, _, G0, _, rfl, rfl, l0, h⟩ := h.uncons
  obtain ⟨v1, _, G1, _, rfl, rfl, l1, h⟩ := h.uncons
  obtain ⟨v2, _, G2, _, rfl, rfl, l2, h⟩ := h.uncons
  obtain ⟨v3, _, G3, _, rfl, rfl, l3, h⟩ := h.uncons
  obtain ⟨rfl, rfl⟩ := h.unnil
  obtain rfl := l0.flat trivial
  obtain rfl := l1.flat trivial
  obtain rfl := l2.flat trivial
  obtain rfl := l3.flat trivial
  rfl
end Tolerance
theorem of_Tolerance {α : Type} {vs : List α} (h : vs.length = 4) : ∃ u0 u1 u2 u3, vs = [u0, u1, u2, u3] := by
  match vs, h with
  | [u0, u1, u2, u3], _ => exact ⟨u0, u1, u2, u3, rfl⟩
end Go.Proofs.YtdgedclpaplgoaaGreatDoor.ty
