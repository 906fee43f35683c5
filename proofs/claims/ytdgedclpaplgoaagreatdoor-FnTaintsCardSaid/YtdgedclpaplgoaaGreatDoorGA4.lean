/- Merged: CellW El TyLabel LabM RdLM. -/
import Derived.Test.YtdgedclpaplgoaaGreatDoorCell
import Derived.Deep.MidRow
import Derived.Deep.Slices
import Derived.Test.YtdgedclpaplgoaaGreatDoorGA0
namespace Go.Proofs.YtdgedclpaplgoaaGreatDoor
open Go Go.RowKit
set_option linter.unusedVariables false

theorem OwnS.append {w : World} {B f : Nat} {xs ys : List Value} {ds es : List C} {F G : List Nat} (h : OwnS w B f xs ds F) (k : OwnS w B f ys es G) : OwnS w B f (xs ++ ys) (ds ++ es) (F ++ G) := by
  obtain ⟨h1, Fs, h2, rfl, h3⟩ := h
  obtain ⟨j1, Gs, j2, rfl, j3⟩ := k
  refine ⟨by simp [h1, j1], Fs ++ Gs, by simp [h2, j2], by simp, fun j u d Fm hu hd hF => ?_⟩
  by_cases hj : j < ds.length
  · rw [List.getElem?_append_left (by omega)] at hu hd hF
    exact h3 j u d Fm hu hd hF
  · rw [List.getElem?_append_right (by omega)] at hu hd hF
    rw [h1] at hu
    rw [h2] at hF
    exact j3 _ u d Fm hu hd hF
/-- Cells that hold no memory. -/
def setR : List Value → Nat → List Value → List Value
  | xs, _, [] => xs
  | xs, o, v :: r => setR (xs.set o v) (o + 1) r
theorem setR_length : ∀ (vs xs : List Value) (o : Nat), (setR xs o vs).length = xs.length
  | [], xs, o => rfl
  | v :: r, xs, o => by rw [setR, setR_length r]; simp
theorem setR_take : ∀ (vs xs : List Value) (o : Nat), o + vs.length ≤ xs.length → (setR xs o vs).take (o + vs.length) = xs.take o ++ vs
  | [], xs, o, _ => by simp [setR]
  | v :: r, xs, o, h => by
    simp only [List.length_cons] at h ⊢
    have ih := setR_take r (xs.set o v) (o + 1) (by simp; omega)
    rw [setR, show o + (r.length + 1) = o + 1 + r.length by omega, ih]
    have e : (xs.set o v).take (o + 1) = xs.take o ++ [v] := by
      rw [List.take_succ_eq_append_getElem (by simp; omega), List.take_set_of_le (Nat.le_refl _)]
      simp
    rw [e, List.append_assoc]
    rfl
/-- Cells are written one behind the other into a row of the call's own. -/
theorem own_setCells {B : Nat} {e : TypeId} {size g n c : Nat} : ∀ (vs xs : List Value) (o : Nat) (w : World), w.ownsRow B e size (.slice (some ⟨g, 0, none⟩) n c) n xs →
    (w.setCells g o vs).ownsRow B e size (.slice (some ⟨g, 0, none⟩) n c) n (setR xs o vs) ∧ w.grownBy (w.setCells g o vs) (some g)
  | [], xs, o, w, h => ⟨h, World.grownBy.refl _ _⟩
  | v :: r, xs, o, w, h => by
    have h1 := h.stored o v
    have h2 := own_setCells r (xs.set o v) (o + 1) (w.setCell ⟨g, o, none⟩ v) h1.1
    exact ⟨h2.1, grown_trans h1.2 h2.2⟩
theorem own_there {w : World} {B : Nat} {e : TypeId} {size g n c : Nat} {xs : List Value} (h : w.ownsRow B e size (.slice (some ⟨g, 0, none⟩) n c) n xs) (o m : Nat) (hm : o + m ≤ n * size) : w.there g o m := by
  intro j hj
  refine ⟨?_, h.frozenAt (o + j)⟩
  rw [h.cellAt (o + j) (by omega)]
  have := h.1
  rw [List.getElem?_eq_getElem (by omega)]
  rfl
/-- A struct is written into place k of a row of the call's own whose first k places are owned. -/
theorem own_fill {w w2 : World} {B f : Nat} {e : TypeId} {size g n c k : Nat} {xs us : List Value} {cells ds : List C} {F G : List Nat}
    (hown : w.ownsRow B e size (.slice (some ⟨g, 0, none⟩) n c) n xs) (hk : k < n) (hus : us.length = size) (ho : OwnS w B f (xs.take (k * size)) cells F) (hnd : F.Nodup) (hg : ∀ x ∈ F, x ≠ g)
    (hn : OwnS w B f us ds G) (hnG : G.Nodup) (hFG : ∀ x ∈ F, x ∉ G) (hgG : ∀ x ∈ G, x ≠ g) (hw2 : w2 = w.setCells g (k * size) us) :
    w2.ownsRow B e size (.slice (some ⟨g, 0, none⟩) n c) n (setR xs (k * size) us) ∧ OwnS w2 B f ((setR xs (k * size) us).take ((k + 1) * size)) (cells ++ ds) (F ++ G) ∧ (F ++ G).Nodup ∧ (∀ x ∈ F ++ G, x ≠ g) ∧ w.grownBy w2 (some g) := by
  subst hw2
  obtain ⟨h1, h2⟩ := own_setCells us xs (k * size) w hown
  have hlen := hown.1
  have hle : (k + 1) * size ≤ n * size := Nat.mul_le_mul_right _ hk
  rw [Nat.add_mul, Nat.one_mul] at hle
  refine ⟨h1, ?_, List.nodup_append.2 ⟨hnd, hnG, fun a ha b hb e => hFG a ha (by rw [e]; exact hb)⟩, fun x hx => ?_, h2⟩
  · rw [Nat.add_mul, Nat.one_mul, ← hus, setR_take us xs (k * us.length) (by rw [hus, hlen]; exact hle)]
    rw [hus]
    exact (OwnS.kept (fun x hx => h2.block x (ho.range x hx).2 (fun e => hg x hx (by injection e))) ho).append (OwnS.kept (fun x hx => h2.block x (hn.range x hx).2 (fun e => hgG x hx (by injection e))) hn)
  · rcases List.mem_append.1 hx with hx | hx
    · exact hg x hx
    · exact hgG x hx
/-- Filled. -/
theorem own_filled {w : World} {B f : Nat} {e : TypeId} {size n c g : Nat} {xs : List Value} {cells : List C} {F : List Nat} (hown : w.ownsRow B e size (.slice (some ⟨g, 0, none⟩) n c) n xs) (hl : cells.length = n * size)
    (ho : OwnS w B f (xs.take (n * size)) cells F) (hnd : F.Nodup) (hg : ∀ x ∈ F, x ≠ g) : OwnRow w B f e size (.slice (some ⟨g, 0, none⟩) n c) n cells := by
  have hlen := hown.1
  rw [List.take_of_length_le (by omega)] at ho
  exact ⟨xs, F, hown, hl, ho, hnd, fun x hx e => hg x hx (by simp [Value.ownBlock] at e; exact e.symm)⟩
/-- Strings of the call's own. -/
theorem ownS_strs {w : World} {B f : Nat} : ∀ (ks : List ByteArray), (∀ x ∈ ks, x.size ≤ maxLen) → OwnS w B (f + 1) (scells ks) (ks.map C.str) []
  | [], _ => OwnS.nil
  | s :: r, h => OwnS.cons (own_str (h s List.mem_cons_self)) (ownS_strs r (fun x hx => h x (List.mem_cons_of_mem _ hx)))
theorem ownS_ints {w : World} {B f : Nat} : ∀ (l : List Int), (∀ x ∈ l, (Lit.int .i64 x).wf = true) → OwnS w B (f + 1) (icells l) (l.map (C.int .i64)) []
  | [], _ => OwnS.nil
  | s :: r, h => OwnS.cons (own_int (h s List.mem_cons_self)) (ownS_ints r (fun x hx => h x (List.mem_cons_of_mem _ hx)))
theorem ownRow_strs {w : World} {B f : Nat} {e : TypeId} {v : Value} {ks : List ByteArray} (h : w.ownsRow B e 1 v ks.length (scells ks)) (hs : ∀ x ∈ ks, x.size ≤ maxLen) : OwnRow w B (f + 1) e 1 v ks.length (ks.map C.str) :=
  ⟨_, [], h, by simp, ownS_strs ks hs, List.nodup_nil, fun x hx => by cases hx⟩
theorem OwnRow.deeper {w : World} {B f f' : Nat} {e : TypeId} {size : Nat} {v : Value} {n : Nat} {cells : List C} (h : OwnRow w B f e size v n cells) (hf : f ≤ f') : OwnRow w B f' e size v n cells := by
  obtain ⟨xs, F, h1, h2, h3, h4⟩ := h
  exact ⟨xs, F, h1, h2, h3.deeper hf, h4⟩
theorem OwnRow.lower {w : World} {B B' f : Nat} {e : TypeId} {size : Nat} {v : Value} {n : Nat} {cells : List C} (h : OwnRow w B f e size v n cells) (hB : B' ≤ B) : OwnRow w B' f e size v n cells := by
  obtain ⟨xs, F, ⟨h0, h1⟩, h2, h3, h4⟩ := h
  refine ⟨xs, F, ⟨h0, ?_⟩, h2, h3.lower hB, h4⟩
  rcases h1 with h1 | ⟨g, cap, cur, k1, k2, k3⟩
  · exact .inl h1
  · exact .inr ⟨g, cap, cur, k1, Nat.le_trans hB k2, k3⟩
/-- An owned slice is a row. -/
theorem own_strs_row {w : World} {B f n : Nat} {v : Value} {ks : List ByteArray} {F : List Nat} (h : Own w B f v (.sl 1 n (ks.map C.str)) F) : ∃ e, w.ownsRow B e 1 v n (scells ks) ∧ n = ks.length ∧ (v.ownBlock = none ∧ F = [] ∨ ∃ g, v.ownBlock = some g ∧ F = [g]) := by
  cases f with
  | zero => exact h.elim
  | succ f =>
    obtain ⟨hl, ⟨rfl, rfl, rfl⟩ | ⟨g, c, cur, e, Fs, rfl, h1, h2, h3, h4, hz, rfl, h5, h6⟩⟩ := h
    · have : ks = [] := List.eq_nil_of_length_eq_zero (by simpa using hl)
      subst this
      exact ⟨0, World.ownsRow_nil _ _ _ _, rfl, .inl ⟨rfl, rfl⟩⟩
    · have hn : n = ks.length := by simpa using hl.symm
      subst hn
      have hcell : ∀ m, m < ks.length → ∃ Fm, Fs[m]? = some Fm ∧ Fm = [] ∧ cur[m]? = some (.string (ks.getD m ⟨#[]⟩)) := fun m hm => by
        have hF : Fs[m]? = some (Fs[m]'(by rw [h5]; simpa using hm)) := List.getElem?_eq_getElem _
        obtain ⟨u, hu, ho⟩ := h6 m (.str ks[m]) _ (by simp [hm]) hF
        refine ⟨_, hF, ho.flat trivial, ?_⟩
        rw [hu, (ho.lies).str.1]
        simp [List.getD, hm]
      have hFs : Fs.flatten = [] := by
        rw [List.flatten_eq_nil_iff]
        intro Fm hFm
        obtain ⟨m, hm, rfl⟩ := List.getElem_of_mem hFm
        obtain ⟨Fm', h7, h8, _⟩ := hcell m (by rw [h5] at hm; simpa using hm)
        rw [List.getElem?_eq_getElem hm] at h7
        injection h7 with h7
        rw [h7, h8]
      refine ⟨e, ⟨by rw [scells_length]; simp, .inr ⟨g, c, cur, rfl, h3, h4, h1, h2, hz, ?_⟩⟩, rfl, .inr ⟨g, rfl, by rw [hFs]⟩⟩
      apply List.ext_getElem?
      intro m
      by_cases hm : m < ks.length
      · obtain ⟨_, _, _, h8⟩ := hcell m hm
        rw [List.getElem?_take_of_lt (by omega), Array.getElem?_toList, h8, scells_get ks m hm]
        simp [List.getD, hm]
      · rw [List.getElem?_eq_none (by rw [List.length_take]; omega), List.getElem?_eq_none (by rw [scells_length]; omega)]
theorem own_row_setCell {w : World} {B f : Nat} {e : TypeId} {size : Nat} {v : Value} {n : Nat} {cells : List C} {g o : Nat} {u : Value} (h : OwnRow w B f e size v n cells) (hg : g < B) : OwnRow (w.setCell ⟨g, o, none⟩ u) B f e size v n cells := by
  obtain ⟨xs, F, h1, h2, h3, h4, h5⟩ := h
  have hk : ∀ x, B ≤ x → (w.setCell ⟨g, o, none⟩ u).heap[x]? = w.heap[x]? := fun x hx => Below.heap_setCell _ _ _ _ (by show x ≠ g; omega)
  refine ⟨xs, F, ⟨h1.1, ?_⟩, h2, OwnS.kept (fun x hx => hk x (h3.range x hx).1) h3, h4, h5⟩
  rcases h1.2 with h6 | ⟨k, cap, cur, k1, k2, k3, k4⟩
  · exact .inl h6
  · exact .inr ⟨k, cap, cur, k1, k2, (hk k k2).trans k3, k4⟩
theorem own_row_setRow {w : World} {B f : Nat} {e : TypeId} {size : Nat} {v : Value} {n : Nat} {cells : List C} {g : Nat} {c : Array Value} (h : OwnRow w B f e size v n cells) (hg : g < B) : OwnRow (w.setRow g c) B f e size v n cells := by
  obtain ⟨xs, F, h1, h2, h3, h4, h5⟩ := h
  have hk : ∀ x, B ≤ x → (w.setRow g c).heap[x]? = w.heap[x]? := fun x hx => by
    simp only [World.setRow, Array.getElem?_modify]
    rw [if_neg (by omega)]
  refine ⟨xs, F, ⟨h1.1, ?_⟩, h2, OwnS.kept (fun x hx => hk x (h3.range x hx).1) h3, h4, h5⟩
  rcases h1.2 with h6 | ⟨k, cap, cur, k1, k2, k3, k4⟩
  · exact .inl h6
  · exact .inr ⟨k, cap, cur, k1, k2, (hk k k2).trans k3, k4⟩
theorem Own.setCell_low {w : World} {B f : Nat} {v : Value} {d : C} {F : List Nat} (h : Own w B f v d F) {g o : Nat} {u : Value} (hg : g < B) : Own (w.setCell ⟨g, o, none⟩ u) B f v d F :=
  h.kept (fun x hx => Below.heap_setCell _ _ _ _ (by have := (h.range x hx).1; show x ≠ g; omega))
theorem Own.setRow_low {w : World} {B f : Nat} {v : Value} {d : C} {F : List Nat} (h : Own w B f v d F) {g : Nat} {c : Array Value} (hg : g < B) : Own (w.setRow g c) B f v d F :=
  h.kept (fun x hx => by
    have := (h.range x hx).1
    simp only [World.setRow, Array.getElem?_modify]
    rw [if_neg (by omega)])
theorem Own.one {w : World} {B f : Nat} {v : Value} {d : C} {F : List Nat} (h : Own w B f v d F) : v.oneCell' = true := by
  cases f with
  | zero => exact h.elim
  | succ f =>
    cases d with
    | int k n => obtain ⟨⟨rfl, _⟩, _⟩ := h; rfl
    | bool b => obtain ⟨rfl, _⟩ := h; rfl
    | str s => obtain ⟨⟨rfl, _⟩, _⟩ := h; rfl
    | sl size n cells =>
      obtain ⟨_, ⟨rfl, _⟩ | ⟨g, c, cur, e, Fs, rfl, _⟩⟩ := h <;> rfl
theorem OwnS.one {w : World} {B f : Nat} {vs : List Value} {ds : List C} {F : List Nat} (h : OwnS w B f vs ds F) : vs.toArray.all (·.oneCell') = true := by
  obtain ⟨h1, Fs, h2, rfl, h3⟩ := h
  refine all_oneCell_toArray fun v hv => ?_
  obtain ⟨m, hm, rfl⟩ := List.getElem_of_mem hv
  exact (h3 m _ _ _ (List.getElem?_eq_getElem hm) (List.getElem?_eq_getElem (by omega)) (List.getElem?_eq_getElem (by omega))).one
theorem own_below' {w w' : World} {B : Nat} {e : TypeId} {size : Nat} {v : Value} {n : Nat} {xs : List Value} (h : w.ownsRow B e size v n xs) (hb : Below w.heap.size w w') : w'.ownsRow B e size v n xs :=
  h.kept (grown_of_below hb none) (by
    by_cases hv : v.ownBlock = none
    · exact .inl hv
    · exact .inr hv)
/-- The cells of one row among others. -/
def mid (L ds R : List C) : List C := L ++ (ds ++ R)
theorem mid_get {L ds R : List C} {o r : Nat} (ho : L.length = o) (hr : r < ds.length) : (mid L ds R)[o + r]? = ds[r]? := by
  unfold mid
  rw [List.getElem?_append_right (by omega), ho, Nat.add_sub_cancel_left, List.getElem?_append_left hr]
theorem mid_set {L ds R : List C} {o r : Nat} (ho : L.length = o) (hr : r < ds.length) (d : C) : (mid L ds R).set (o + r) d = mid L (ds.set r d) R := by
  unfold mid
  rw [List.set_append_right _ _ (by omega), ho, Nat.add_sub_cancel_left, List.set_append_left _ _ hr]
/-- A field of one row: what lies there, and that it may be written. -/
theorem Own.field {w : World} {B f g n c size : Nat} {L ds R : List C} {F : List Nat} (h : Own w B (f + 1) (.slice (some ⟨g, 0, none⟩) n c) (.sl size n (mid L ds R)) F) (hnd : F.Nodup) {o r : Nat} (ho : L.length = o) {d : C} (hd : ds[r]? = some d) :
    ∃ (u : Value) (Fm : List Nat), w.cell? ⟨g, o + r, none⟩ = some u ∧ w.frozen? ⟨g, o + r, none⟩ = false ∧ Own w B f u d Fm ∧ (∀ x ∈ Fm, x ∈ F) ∧ g ∈ F ∧ g ∉ Fm ∧ Fm.Nodup ∧
      ∀ (w' : World) (d' : C), KeptBut Fm w w' → Own w' B f u d' Fm → Own w' B (f + 1) (.slice (some ⟨g, 0, none⟩) n c) (.sl size n (mid L (ds.set r d') R)) F := by
  have hr : r < ds.length := (List.getElem?_eq_some_iff.1 hd).1
  obtain ⟨u, Fm, h1, h2, h3, h4, h5, h6, h7, h8⟩ := h.sub hnd (m := o + r) (d := d) (by rw [mid_get ho hr]; exact hd)
  refine ⟨u, Fm, h1, h2, h3, h4, h5, h6, h7, fun w' d' hk ho' => ?_⟩
  have := h8 w' d' hk ho'
  rw [mid_set ho hr] at this
  exact this
/-- A number, a truth or a string is written into a field of one row. -/
theorem Own.put {w : World} {B f g n c size : Nat} {L ds R : List C} {F : List Nat} (h : Own w B (f + 1) (.slice (some ⟨g, 0, none⟩) n c) (.sl size n (mid L ds R)) F) (hnd : F.Nodup) {o r : Nat} (ho : L.length = o) {d d' : C} (hd : ds[r]? = some d) (hf : d.flat) {u' : Value}
    (hu' : ∀ w', Own w' B f u' d' []) : Own (w.setCell ⟨g, o + r, none⟩ u') B (f + 1) (.slice (some ⟨g, 0, none⟩) n c) (.sl size n (mid L (ds.set r d') R)) F ∧ KeptBut F w (w.setCell ⟨g, o + r, none⟩ u') ∧
      (∃ u, w.cell? ⟨g, o + r, none⟩ = some u) ∧ w.frozen? ⟨g, o + r, none⟩ = false := by
  have hr : r < ds.length := (List.getElem?_eq_some_iff.1 hd).1
  have hm : (mid L ds R)[o + r]? = some d := by rw [mid_get ho hr]; exact hd
  obtain ⟨u, Fm, h1, h2, _⟩ := h.sub hnd hm
  obtain ⟨h3, h4⟩ := h.store hnd hm hf hu'
  rw [mid_set ho hr] at h3
  exact ⟨h3, h4, ⟨u, h1⟩, h2⟩
/-- Strings of an owned slice written anew, in the same blocks. -/
theorem own_strs_back {w : World} {B f n : Nat} {e : TypeId} {v : Value} {ks : List ByteArray} (h : w.ownsRow B e 1 v n (scells ks)) (hn : n = ks.length) (hs : ∀ x ∈ ks, x.size ≤ maxLen) {F : List Nat} (hF : v.ownBlock = none ∧ F = [] ∨ ∃ g, v.ownBlock = some g ∧ F = [g]) : Own w B (f + 2) v (.sl 1 n (ks.map C.str)) F := by
  subst hn
  obtain ⟨h1, Fs, h2, h3, h4⟩ := ownS_strs (w := w) (B := B) (f := f) ks hs
  obtain ⟨F', h5, h6⟩ := own_of_row (B := B) h (Nat.le_refl _) (by simp) h2 h4
  have : F' = F := by
    rcases h6 with ⟨rfl, rfl⟩ | ⟨g, c, rfl, _, _, rfl⟩
    · rcases hF with ⟨_, rfl⟩ | ⟨g, hg, _⟩
      · rfl
      · simp [Value.ownBlock] at hg
    · rcases hF with ⟨hg, _⟩ | ⟨g', hg, rfl⟩
      · simp [Value.ownBlock] at hg
      · simp [Value.ownBlock] at hg
        rw [← h3, hg]
  subst this
  exact h5
theorem KeptBut.of_row {w w' : World} {v : Value} {F : List Nat} (h : w.grownBy w' v.ownBlock) (hF : v.ownBlock = none ∧ F = [] ∨ ∃ g, v.ownBlock = some g ∧ F = [g]) : KeptBut F w w' := by
  refine ⟨h.os, h.tape, h.output, h.size, fun k hk hn => h.block k hk (fun e => hn ?_)⟩
  rcases hF with ⟨hv, rfl⟩ | ⟨g, hv, rfl⟩
  · rw [hv] at e; cases e
  · rw [hv] at e; injection e with e; simp [e]
theorem own_strs_again {w w' : World} {B f n : Nat} {e : TypeId} {v : Value} {ks ks' : List ByteArray} {F : List Nat} (h0 : Own w B (f + 1) v (.sl 1 n (ks.map C.str)) F) (h : w'.ownsRow B e 1 v n (scells ks')) (hn : n = ks'.length) (hs : ∀ x ∈ ks', x.size ≤ maxLen)
    (hF : v.ownBlock = none ∧ F = [] ∨ ∃ g, v.ownBlock = some g ∧ F = [g]) : Own w' B (f + 1) v (.sl 1 n (ks'.map C.str)) F := by
  cases f with
  | succ f => exact own_strs_back h hn hs hF
  | zero =>
    obtain ⟨hl, ⟨rfl, rfl, rfl⟩ | ⟨g, c, cur, e0, Fs, rfl, h1, h2, h3, h4, hz, rfl, h5, h6⟩⟩ := h0
    · have : ks' = [] := List.eq_nil_of_length_eq_zero hn.symm
      subst this
      exact own_nil w' B 0 1
    · have hk : n = 0 := by
        rcases Nat.eq_zero_or_pos n with hk | hk
        · exact hk
        · have hm : 0 < (ks.map C.str).length := by omega
          obtain ⟨u, _, ho⟩ := h6 0 _ _ (List.getElem?_eq_getElem hm) (List.getElem?_eq_getElem (by omega))
          exact ho.elim
      subst hk
      have h7 : ks' = [] := List.eq_nil_of_length_eq_zero hn.symm
      subst h7
      have h8 : Fs = [] := List.eq_nil_of_length_eq_zero (by rw [h5, hl, Nat.zero_mul])
      subst h8
      rcases h.2 with ⟨h9, _⟩ | ⟨k, cap, cur', h9, k2, k3, k4, k5, k6, k7⟩
      · cases h9
      · injection h9 with e1 e2 e3
        injection e1 with e1
        injection e1 with e1
        subst e1 e3
        exact ⟨by simp, .inr ⟨g, c, cur', e, [], rfl, k4, k5, k2, k3, k6, rfl, rfl, fun m d Fm hd => by simp at hd⟩⟩
theorem six_of {α : Type} {vs : List α} (h : vs.length = 6) : ∃ u0 u1 u2 u3 u4 u5, vs = [u0, u1, u2, u3, u4, u5] := by
  match vs, h with
  | [u0, u1, u2, u3, u4, u5], _ => exact ⟨u0, u1, u2, u3, u4, u5, rfl⟩
/-- Block g holds these six cells. -/
def Row6 (w : World) (g : Nat) (u0 u1 u2 u3 u4 u5 : Value) : Prop :=
  w.cell? ⟨g, 0, none⟩ = some u0 ∧ w.cell? ⟨g, 1, none⟩ = some u1 ∧ w.cell? ⟨g, 2, none⟩ = some u2 ∧ w.cell? ⟨g, 3, none⟩ = some u3 ∧ w.cell? ⟨g, 4, none⟩ = some u4 ∧ w.cell? ⟨g, 5, none⟩ = some u5
theorem Row6.of {w : World} {g : Nat} {u0 u1 u2 u3 u4 u5 : Value} {e : TypeId} (h : w.heap[g]? = some (.cells #[u0, u1, u2, u3, u4, u5] e (0, 0))) : Row6 w g u0 u1 u2 u3 u4 u5 :=
  ⟨by rw [cell_of_row w g 0 _ _ _ h]; rfl, by rw [cell_of_row w g 1 _ _ _ h]; rfl, by rw [cell_of_row w g 2 _ _ _ h]; rfl, by rw [cell_of_row w g 3 _ _ _ h]; rfl, by rw [cell_of_row w g 4 _ _ _ h]; rfl, by rw [cell_of_row w g 5 _ _ _ h]; rfl⟩
theorem Row6.below {w w' : World} {g : Nat} {u0 u1 u2 u3 u4 u5 : Value} (h : Row6 w g u0 u1 u2 u3 u4 u5) (hb : Below w.heap.size w w') : Row6 w' g u0 u1 u2 u3 u4 u5 := by
  have k : ∀ (j : Nat) (u : Value), w.cell? ⟨g, j, none⟩ = some u → w'.cell? ⟨g, j, none⟩ = some u := fun j u hu => (hb.cell (World.block_lt_of_cell? _ _ hu)).trans hu
  exact ⟨k 0 _ h.1, k 1 _ h.2.1, k 2 _ h.2.2.1, k 3 _ h.2.2.2.1, k 4 _ h.2.2.2.2.1, k 5 _ h.2.2.2.2.2⟩
theorem below_link {w a b : World} {B : Nat} (h : Below B w a) (k : Below a.heap.size a b) (hB : B ≤ a.heap.size) : Below B w b := h.trans (k.mono hB)
theorem Row6.but {w w' : World} {g : Nat} {u0 u1 u2 u3 u4 u5 : Value} {F : List Nat} (h : Row6 w g u0 u1 u2 u3 u4 u5) (hk : KeptBut F w w') (hg : g ∉ F) : Row6 w' g u0 u1 u2 u3 u4 u5 := by
  have k : ∀ (j : Nat) (u : Value), w.cell? ⟨g, j, none⟩ = some u → w'.cell? ⟨g, j, none⟩ = some u := fun j u hu => (World.cell?_of_block (hk.block g (World.block_lt_of_cell? _ _ hu) hg)).trans hu
  exact ⟨k 0 _ h.1, k 1 _ h.2.1, k 2 _ h.2.2.1, k 3 _ h.2.2.2.1, k 4 _ h.2.2.2.2.1, k 5 _ h.2.2.2.2.2⟩
end Go.Proofs.YtdgedclpaplgoaaGreatDoor
namespace Go.Proofs.YtdgedclpaplgoaaGreatDoor
open Go Go.RowKit
set_option linter.unusedVariables false

theorem flat_get' {α β : Type} {f : α → List β} {sz : Nat} (hf : ∀ a, (f a).length = sz) : ∀ (l : List α) (i j : Nat) (a : α), l[i]? = some a → j < sz → (l.flatMap f)[i * sz + j]? = (f a)[j]?
  | [], i, j, a, h, _ => by simp at h
  | x :: l, 0, j, a, h, hj => by
    simp at h
    subst h
    rw [List.flatMap_cons, List.getElem?_append_left (by rw [hf]; omega)]
    simp
  | x :: l, i + 1, j, a, h, hj => by
    rw [List.flatMap_cons, List.getElem?_append_right (by rw [hf, Nat.add_mul]; omega), hf, Nat.add_mul, show i * sz + 1 * sz + j - sz = i * sz + j by omega]
    exact flat_get' hf l i j a (by simpa using h) hj
theorem flat_length' {α β : Type} {f : α → List β} {sz : Nat} (hf : ∀ a, (f a).length = sz) : ∀ l : List α, (l.flatMap f).length = l.length * sz
  | [] => by simp
  | x :: l => by rw [List.flatMap_cons, List.length_append, hf, flat_length' hf l, List.length_cons, Nat.add_mul]; omega
/-- The elements of a slice of structs, each as its cells. -/
def ElsAt {α : Type} (row : α → List C) (w : World) (f : Nat) (A : Option Addr) (l : List α) (k : Nat) : Prop :=
  0 < l.length → ∃ g o, A = some ⟨g, o, none⟩ ∧ g < w.heap.size ∧ ∀ (j : Nat) (x : α), l[j]? = some x → ∃ us : List Value, us.length = k ∧ (∀ i u, us[i]? = some u → w.cell? ⟨g, o + j * k + i, none⟩ = some u) ∧ LiesS w f us (row x)
theorem ElsAt.kept {α : Type} {row : α → List C} {w w' : World} {f : Nat} {A : Option Addr} {l : List α} {k : Nat} (h : ElsAt row w f A l k) (hk : ∀ g, g < w.heap.size → w'.heap[g]? = w.heap[g]?) : ElsAt row w' f A l k := by
  intro hn
  obtain ⟨g, o, rfl, hg, hc⟩ := h hn
  have e := hk g hg
  have hs : g < w'.heap.size := by
    rw [Array.getElem?_eq_getElem hg] at e
    exact heap_lt e
  refine ⟨g, o, rfl, hs, fun j x hx => ?_⟩
  obtain ⟨us, h1, h2, h3⟩ := hc j x hx
  exact ⟨us, h1, fun i u hu => (World.cell?_of_block e).trans (h2 i u hu), h3.kept hk⟩
theorem ElsAt.below {α : Type} {row : α → List C} {w w' : World} {f : Nat} {A : Option Addr} {l : List α} {k : Nat} (h : ElsAt row w f A l k) (hb : Below w.heap.size w w') : ElsAt row w' f A l k := h.kept hb.block
theorem els_of {α : Type} {row : α → List C} {k : Nat} (hk : ∀ x, (row x).length = k) {w : World} {f : Nat} {v : Value} {l : List α} (h : Lies w f v (.sl k l.length (l.flatMap row))) :
    ∃ A c, v = .slice A l.length c ∧ l.length ≤ c ∧ c ≤ maxLen ∧ ∃ f', f = f' + 1 ∧ ElsAt row w f' A l k := by
  obtain ⟨A, c, rfl, h1, h2, _, f', rfl, h3⟩ := h.sl
  refine ⟨A, c, rfl, h1, h2, f', rfl, fun hn => ?_⟩
  obtain ⟨g, o, rfl, hg, hc⟩ := h3 hn
  refine ⟨g, o, rfl, hg, fun j x hx => ?_⟩
  have hone : ∀ i, i < k → ∃ u : Value, w.cell? ⟨g, o + (j * k + i), none⟩ = some u ∧ ∃ d, (row x)[i]? = some d ∧ Lies w f' u d := fun i hi => by
    have hd : i < (row x).length := by rw [hk]; exact hi
    obtain ⟨u, hu, hl⟩ := hc (j * k + i) (row x)[i] (by rw [flat_get' hk l j i x hx hi]; exact List.getElem?_eq_getElem hd)
    exact ⟨u, hu, _, List.getElem?_eq_getElem hd, hl⟩
  obtain ⟨q, hq⟩ := Go.Deep.choose_lt hone
  refine ⟨(List.range k).map q, by simp, fun i u hu => ?_, by simp [hk], fun m u d hu hd => ?_⟩
  · have hi : i < k := by have := (List.getElem?_eq_some_iff.1 hu).1; simpa using this
    simp [hi] at hu
    subst hu
    rw [Nat.add_assoc]
    exact (hq i hi).1
  · have hi : m < k := by have := (List.getElem?_eq_some_iff.1 hu).1; simpa using this
    simp [hi] at hu
    subst hu
    obtain ⟨_, d', e, hl⟩ := hq m hi
    rw [e] at hd
    injection hd with hd
    exact hd ▸ hl
/-- One element, its place known. -/
theorem ElsAt.get {α : Type} {row : α → List C} {w : World} {f : Nat} {A : Option Addr} {l : List α} {k : Nat} (h : ElsAt row w f A l k) {j : Nat} (hj : j < l.length) : ∃ g o, A = some ⟨g, o, none⟩ ∧ g < w.heap.size ∧ ∃ us : List Value, us.length = k ∧ (∀ i u, us[i]? = some u → w.cell? ⟨g, o + j * k + i, none⟩ = some u) ∧ LiesS w f us (row l[j]) := by
  obtain ⟨g, o, hA, hg, hc⟩ := h (by omega)
  exact ⟨g, o, hA, hg, hc j _ (List.getElem?_eq_getElem hj)⟩

/-! What is left of so many. -/
/-- What is left of so many behind x: -1 if they do not do. -/
def cutN (left : Int) (x : Nat) : Int := if left < x then -1 else left - x
theorem cutN_no {left : Int} {x : Nat} (h : left < x) : cutN left x = -1 := by unfold cutN; rw [if_pos h]
theorem cutN_yes {left : Int} {x : Nat} (h : ¬ left < x) : cutN left x = left - x := by unfold cutN; rw [if_neg h]
def LeftN (l : Int) : Prop := 0 ≤ l ∧ l ≤ 1048576
def wsum {α : Type} (wt : α → Nat) (l : List α) : Nat := (l.map wt).sum
theorem wsum_append {α : Type} (wt : α → Nat) (a b : List α) : wsum wt (a ++ b) = wsum wt a + wsum wt b := by simp [wsum]
theorem wsum_take {α : Type} (wt : α → Nat) {l : List α} {j : Nat} (h : j < l.length) : wsum wt (l.take (j + 1)) = wsum wt (l.take j) + wt l[j] := by
  rw [List.take_succ_eq_append_getElem h, wsum_append]; simp [wsum]
theorem wsum_all {α : Type} (wt : α → Nat) (l : List α) (j : Nat) : wsum wt l = wsum wt (l.take j) + wsum wt (l.drop j) := by
  rw [← wsum_append, List.take_append_drop]
theorem wsum_mem {α : Type} (wt : α → Nat) {l : List α} {j : Nat} (h : j < l.length) : wt l[j] ≤ wsum wt l := by
  have h1 := wsum_all wt l (j + 1)
  rw [wsum_take wt h] at h1
  omega

/-! The law's marks on a list. -/
def mks {α : Type} (mk : α → Int → α) (cost : α → Nat) : List α → Int → List α
  | [], _ => []
  | x :: r, k => mk x k :: mks mk cost r (k + cost x)
theorem mks_length {α : Type} (mk : α → Int → α) (cost : α → Nat) : ∀ (l : List α) (k : Int), (mks mk cost l k).length = l.length
  | [], _ => rfl
  | x :: r, k => by rw [mks, List.length_cons, List.length_cons, mks_length mk cost r]
theorem mks_append {α : Type} (mk : α → Int → α) (cost : α → Nat) : ∀ (a b : List α) (k : Int), mks mk cost (a ++ b) k = mks mk cost a k ++ mks mk cost b (k + wsum cost a)
  | [], b, k => by simp [mks, wsum]
  | x :: r, b, k => by
    rw [List.cons_append, mks, mks, mks_append mk cost r b, List.cons_append]
    have : (k + (cost x : Int)) + (wsum cost r : Int) = k + (wsum cost (x :: r) : Int) := by simp [wsum]; omega
    rw [this]
theorem mks_next {α : Type} (mk : α → Int → α) (cost : α → Nat) {l : List α} {j : Nat} (h : j < l.length) (k : Int) : mks mk cost (l.take (j + 1)) k ++ l.drop (j + 1) = mks mk cost (l.take j) k ++ (mk l[j] (k + wsum cost (l.take j)) :: l.drop (j + 1)) := by
  rw [List.take_succ_eq_append_getElem h, mks_append]
  simp [mks]
theorem mks_get {α : Type} (mk : α → Int → α) (cost : α → Nat) {l : List α} {j : Nat} (h : j < l.length) (k : Int) : (mks mk cost l k)[j]? = some (mk l[j] (k + wsum cost (l.take j))) := by
  have e : l = l.take j ++ (l[j] :: l.drop (j + 1)) := by rw [← List.drop_eq_getElem_cons h, List.take_append_drop]
  have e2 : mks mk cost l k = mks mk cost (l.take j) k ++ (mk l[j] (k + wsum cost (l.take j)) :: mks mk cost (l.drop (j + 1)) (k + wsum cost (l.take j) + cost l[j])) := by
    conv => lhs; rw [e]
    rw [mks_append, mks]
  rw [e2, List.getElem?_append_right (by rw [mks_length, List.length_take]; omega), mks_length, List.length_take, show j - min j l.length = 0 by omega]
  rfl
end Go.Proofs.YtdgedclpaplgoaaGreatDoor
namespace Go.Proofs.YtdgedclpaplgoaaGreatDoor.ty
open Go Go.RowKit
set_option linter.unusedVariables false

structure Label where
  key : ByteArray
  value : ByteArray
namespace Label
def row (x : Label) : List C := [.str x.key, .str x.value]
theorem row_length (x : Label) : x.row.length = 2 := rfl
def wt (x : Label) : Nat := x.key.size + x.value.size
def cost (_ : Label) : Nat := 2
def mark (_ : Label) (k : Int) : Label := ⟨(lawMark.mt k), (lawMark.mt (k + 1))⟩
def Wf (x : Label) : Prop := x.key.size ≤ maxLen ∧ x.value.size ≤ maxLen
theorem opened {w : World} {f : Nat} {us : List Value} {x : Label} (h : LiesS w f us x.row) : us = [.string x.key, .string x.value] ∧ x.Wf := by
  obtain ⟨v0, _, rfl, l0, h⟩ := h.uncons
  obtain ⟨v1, _, rfl, l1, h⟩ := h.uncons
  obtain rfl := h.unnil
  obtain ⟨rfl, w0⟩ := l0.str
  obtain ⟨rfl, w1⟩ := l1.str
  exact ⟨rfl, w0, w1⟩
theorem owned {w : World} {B f : Nat} {x : Label} (h : x.Wf) : OwnS w B (f + 1) [.string x.key, .string x.value] x.row [] := by
  obtain ⟨w0, w1⟩ := h
  exact OwnS.cons (own_str w0) (OwnS.cons (own_str w1) (OwnS.nil))
theorem lies {w : World} {f : Nat} {x : Label} (h : x.Wf) : LiesS w (f + 1) [.string x.key, .string x.value] x.row := (owned (B := 0) h).lies
theorem flat_of {w : World} {B f : Nat} {us : List Value} {x : Label} {F : List Nat} (h : OwnS w B f us x.row F) : F = [] := by
  obtain ⟨v0, _, G0, _, rfl, rfl, l0, h⟩ := h.uncons
  obtain ⟨v1, _, G1, _, rfl, rfl, l1, h⟩ := h.uncons
  obtain ⟨rfl, rfl⟩ := h.unnil
  obtain rfl := l0.flat trivial
  obtain rfl := l1.flat trivial
  rfl
end Label
theorem of_Label {α : Type} {vs : List α} (h : vs.length = 2) : ∃ u0 u1, vs = [u0, u1] := by
  match vs, h with
  | [u0, u1], _ => exact ⟨u0, u1, rfl⟩
end Go.Proofs.YtdgedclpaplgoaaGreatDoor.ty
namespace Go.Proofs.YtdgedclpaplgoaaGreatDoor.lab
open Go Go.RowKit ty
set_option linter.unusedVariables false

def lessB (a b : ByteArray) : Bool := Op.bytesLess a.toList b.toList
/-- The first k are right, in order. -/
def GoodTo (l : List Label) (k : Nat) : Prop := ∀ i (h : i < l.length), i < k → KeyP l[i].key ∧ ValP l[i].value ∧ (∀ m (hm : m + 1 = i), lessB (l[m]'(by omega)).key l[i].key = true)
def LabelsP (l : List Label) : Prop := l.length ≤ 6 ∧ GoodTo l l.length
theorem good_next {l : List Label} {k : Nat} (h : GoodTo l k) (hk : k < l.length) (h1 : KeyP l[k].key) (h2 : ValP l[k].value) (h3 : ∀ m (hm : m + 1 = k), lessB (l[m]'(by omega)).key l[k].key = true) : GoodTo l (k + 1) := fun i hi hik => by
  by_cases e : i = k
  · subst e; exact ⟨h1, h2, h3⟩
  · exact h i hi (by omega)
theorem good_at {l : List Label} (h : GoodTo l l.length) {k : Nat} (hk : k < l.length) : KeyP l[k].key ∧ ValP l[k].value ∧ (∀ m (hm : m + 1 = k), lessB (l[m]'(by omega)).key l[k].key = true) := h k hk hk
/-- The texts of a list are no longer than so. -/
def Small (l : List Label) : Prop := ∀ x ∈ l, x.key.size ≤ 1048576 ∧ x.value.size ≤ 1048576
theorem small_of {l : List Label} (h : wsum Label.wt l ≤ 1048576) : Small l := fun x hx => by
  obtain ⟨i, hi, rfl⟩ := List.getElem_of_mem hx
  have h1 := wsum_mem Label.wt hi
  unfold Label.wt at h1 h
  omega
/-- The value of the first label with a key. -/
def atF : List Label → ByteArray → Option ByteArray
  | [], _ => none
  | x :: r, key => if x.key = key then some x.value else atF r key
theorem atF_none {l : List Label} {key : ByteArray} (h : ∀ x ∈ l, x.key ≠ key) : atF l key = none := by
  induction l with
  | nil => rfl
  | cons a r ih => rw [atF, if_neg (h a List.mem_cons_self)]; exact ih fun x hx => h x (List.mem_cons_of_mem _ hx)
theorem atF_some {l : List Label} {key : ByteArray} {k : Nat} (hk : k < l.length) (h1 : ∀ j (hj : j < k), (l[j]'(by omega)).key ≠ key) (h2 : l[k].key = key) : atF l key = some l[k].value := by
  induction l generalizing k with
  | nil => simp at hk
  | cons a r ih =>
    cases k with
    | zero => rw [atF]; exact if_pos h2
    | succ k =>
      have h0 : a.key ≠ key := h1 0 (by omega)
      rw [atF, if_neg h0]
      exact ih (k := k) (by simpa using hk) (fun j hj => h1 (j + 1) (by omega)) h2
/-- What LabelsLine gives. -/
def pairB (x : Label) : List UInt8 := x.key.data.toList ++ 61 :: x.value.data.toList
def joinB : List Label → List UInt8
  | [] => []
  | [x] => pairB x
  | x :: y :: r => pairB x ++ 44 :: joinB (y :: r)
theorem joinB_snoc : ∀ (l : List Label) (x : Label), joinB (l ++ [x]) = if l = [] then pairB x else joinB l ++ 44 :: pairB x
  | [], x => rfl
  | [y], x => by simp [joinB]
  | y :: z :: r, x => by
    have ih := joinB_snoc (z :: r) x
    rw [if_neg (by simp)] at ih ⊢
    show pairB y ++ 44 :: joinB ((z :: r) ++ [x]) = _
    rw [ih]
    simp [joinB]
open Classical in
noncomputable def lineF (l : List Label) : ByteArray := if LabelsP l then (if l = [] then ⟨#[45]⟩ else ⟨(joinB l).toArray⟩) else ⟨#[]⟩
theorem line_no {l : List Label} (h : ¬ LabelsP l) : lineF l = ⟨#[]⟩ := by unfold lineF; rw [if_neg h]
theorem line_nil : LabelsP [] → lineF [] = ⟨#[45]⟩ := fun h => by unfold lineF; rw [if_pos h, if_pos rfl]
theorem line_yes {l : List Label} (h : LabelsP l) (h2 : l ≠ []) : lineF l = ⟨(joinB l).toArray⟩ := by unfold lineF; rw [if_pos h, if_neg h2]
/-- In order by insertion: behind equal keys. -/
def ins (x : Label) (l : List Label) : List Label := l.takeWhile (fun y => !lessB x.key y.key) ++ x :: l.dropWhile (fun y => !lessB x.key y.key)
def sorted (l : List Label) : List Label := l.foldl (fun a x => ins x a) []
theorem ins_length (x : Label) (l : List Label) : (ins x l).length = l.length + 1 := by
  unfold ins
  have h := congrArg List.length (List.takeWhile_append_dropWhile (p := fun y => !lessB x.key y.key) (l := l))
  rw [List.length_append] at h ⊢
  rw [List.length_cons]
  omega
theorem sorted_snoc (l : List Label) (x : Label) : sorted (l ++ [x]) = ins x (sorted l) := by unfold sorted; rw [List.foldl_append]; rfl
theorem sorted_length (l : List Label) : (sorted l).length = l.length := by
  have h : ∀ (l acc : List Label), (l.foldl (fun a x => ins x a) acc).length = acc.length + l.length := by
    intro l
    induction l with
    | nil => intro acc; simp
    | cons a r ih => intro acc; rw [List.foldl_cons, ih, ins_length, List.length_cons]; omega
  have := h l []
  simpa [sorted] using this
theorem ins_mem {x : Label} {l : List Label} {y : Label} (h : y ∈ ins x l) : y = x ∨ y ∈ l := by
  unfold ins at h
  rcases List.mem_append.1 h with h | h
  · exact .inr ((List.takeWhile_sublist _).subset h)
  · rcases List.mem_cons.1 h with h | h
    · exact .inl h
    · exact .inr ((List.dropWhile_suffix _).subset h)
theorem sorted_mem : ∀ (l acc : List Label) {y : Label}, y ∈ l.foldl (fun a x => ins x a) acc → y ∈ l ∨ y ∈ acc
  | [], acc, y, h => .inr h
  | a :: r, acc, y, h => by
    rw [List.foldl_cons] at h
    rcases sorted_mem r (ins a acc) h with h | h
    · exact .inl (List.mem_cons_of_mem _ h)
    · rcases ins_mem h with rfl | h
      · exact .inl List.mem_cons_self
      · exact .inr h
theorem small_sorted {l : List Label} (h : Small l) : Small (sorted l) := fun x hx => by
  rcases sorted_mem l [] hx with h1 | h1
  · exact h x h1
  · cases h1
open Classical in
noncomputable def sortF (l : List Label) : List Label × Bool := if l.length ≤ 6 ∧ LabelsP (sorted l) then (sorted l, true) else (l, false)
theorem sort_no {l : List Label} (h : ¬ (l.length ≤ 6 ∧ LabelsP (sorted l))) : sortF l = (l, false) := by unfold sortF; rw [if_neg h]
theorem sort_yes {l : List Label} (h1 : l.length ≤ 6) (h : LabelsP (sorted l)) : sortF l = (sorted l, true) := by unfold sortF; rw [if_pos ⟨h1, h⟩]
end Go.Proofs.YtdgedclpaplgoaaGreatDoor.lab
namespace Go.Proofs.YtdgedclpaplgoaaGreatDoor.lab
open Go Go.RowKit ty cut
set_option linter.unusedVariables false

theorem cut_pos (s : ByteArray) (c : Int) : 0 < (cutF s c).length := by
  unfold cutF
  simp only [cs, true_or, if_true]
  simp
def pairF (p : ByteArray) : Option Label := match cutF p 61 with
  | [a, b] => some ⟨a, b⟩
  | _ => none
theorem pair_no {p : ByteArray} (h : (cutF p 61).length ≠ 2) : pairF p = none := by
  unfold pairF
  split
  · next a b e => rw [e] at h; exact absurd rfl h
  · rfl
theorem pair_yes {p a b : ByteArray} (h : cutF p 61 = [a, b]) : pairF p = some ⟨a, b⟩ := by unfold pairF; rw [h]
def pairs : List ByteArray → Option (List Label)
  | [] => some []
  | p :: r => match pairF p, pairs r with
    | some x, some l => some (x :: l)
    | _, _ => none
theorem pairs_snoc : ∀ (a : List ByteArray) (p : ByteArray) (l : List Label) (x : Label), pairs a = some l → pairF p = some x → pairs (a ++ [p]) = some (l ++ [x])
  | [], p, l, x, h, hx => by
    simp [pairs] at h
    subst h
    simp [pairs, hx]
  | q :: r, p, l, x, h, hx => by
    rw [List.cons_append, pairs]
    rw [pairs] at h
    cases hq : pairF q with
    | none => rw [hq] at h; simp at h
    | some y =>
      cases hr : pairs r with
      | none => rw [hq, hr] at h; simp at h
      | some m =>
        rw [hq, hr] at h
        simp at h
        subst h
        rw [pairs_snoc r p m x hr hx]
        simp
theorem pairs_dead : ∀ (a : List ByteArray) (p : ByteArray), p ∈ a → pairF p = none → pairs a = none
  | [], p, h, _ => by cases h
  | q :: r, p, h, hx => by
    rw [pairs]
    rcases List.mem_cons.1 h with rfl | h
    · rw [hx]
    · rw [pairs_dead r p h hx]
      cases pairF q <;> rfl
theorem pairs_sizes : ∀ (a : List ByteArray) (l : List Label) (m : Nat), (∀ p ∈ a, p.size ≤ m) → pairs a = some l → (∀ x ∈ l, x.key.size ≤ m ∧ x.value.size ≤ m) ∧ l.length = a.length
  | [], l, m, h, hl => by
    simp [pairs] at hl
    subst hl
    exact ⟨(by intro x hx; cases hx), rfl⟩
  | q :: r, l, m, h, hl => by
    rw [pairs] at hl
    cases hq : pairF q with
    | none => rw [hq] at hl; simp at hl
    | some y =>
      cases hr : pairs r with
      | none => rw [hq, hr] at hl; simp at hl
      | some k =>
        rw [hq, hr] at hl
        simp at hl
        subst hl
        obtain ⟨h1, h2⟩ := pairs_sizes r k m (fun p hp => h p (List.mem_cons_of_mem _ hp)) hr
        refine ⟨fun x hx => ?_, by simp [h2]⟩
        rcases List.mem_cons.1 hx with rfl | hx
        · have hqs := h q List.mem_cons_self
          unfold pairF at hq
          split at hq
          · next a b e =>
            injection hq with hq
            subst hq
            have h3 := cut_sizes q 61
            rw [e] at h3
            have h4 := h3 a List.mem_cons_self
            have h5 := h3 b (List.mem_cons_of_mem _ List.mem_cons_self)
            exact ⟨Nat.le_trans h4 hqs, Nat.le_trans h5 hqs⟩
          · cases hq
        · exact h1 x hx
open Classical in
noncomputable def readF (s : ByteArray) : List Label × Bool :=
  if s = ⟨#[45]⟩ then ([], true) else if 400 < s.size then ([], false) else match pairs (cutF s 44) with
    | some l => if LabelsP l then (l, true) else ([], false)
    | none => ([], false)
theorem read_dash : readF ⟨#[45]⟩ = ([], true) := by unfold readF; rw [if_pos rfl]
theorem read_long {s : ByteArray} (h : s ≠ ⟨#[45]⟩) (h2 : 400 < s.size) : readF s = ([], false) := by unfold readF; rw [if_neg h, if_pos h2]
theorem read_none {s : ByteArray} (h : s ≠ ⟨#[45]⟩) (h2 : ¬ 400 < s.size) (h3 : pairs (cutF s 44) = none) : readF s = ([], false) := by unfold readF; rw [if_neg h, if_neg h2, h3]
theorem read_bad {s : ByteArray} {l : List Label} (h : s ≠ ⟨#[45]⟩) (h2 : ¬ 400 < s.size) (h3 : pairs (cutF s 44) = some l) (h4 : ¬ LabelsP l) : readF s = ([], false) := by unfold readF; rw [if_neg h, if_neg h2, h3]; simp only; rw [if_neg h4]
theorem read_good {s : ByteArray} {l : List Label} (h : s ≠ ⟨#[45]⟩) (h2 : ¬ 400 < s.size) (h3 : pairs (cutF s 44) = some l) (h4 : LabelsP l) : readF s = (l, true) := by unfold readF; rw [if_neg h, if_neg h2, h3]; simp only; rw [if_pos h4]
theorem read_len (s : ByteArray) : (readF s).1.length ≤ 1048576 := by
  unfold readF
  split
  · simp
  · split
    · simp
    · split
      · split
        · next h => have := h.1; show _ ≤ _; simp only; omega
        · simp
      · simp
end Go.Proofs.YtdgedclpaplgoaaGreatDoor.lab
