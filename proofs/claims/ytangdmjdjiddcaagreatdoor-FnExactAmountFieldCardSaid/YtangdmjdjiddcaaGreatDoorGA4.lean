/- Merged: CellW TrTo. -/
import Derived.Test.YtangdmjdjiddcaaGreatDoorCell
import Derived.Deep.MidRow
import Derived.Test.YtangdmjdjiddcaaGreatDoorGA3
import Derived.Test.YtangdmjdjiddcaaGreatDoorGA0
import Derived.Deep.WholeRow
namespace Go.Proofs.YtangdmjdjiddcaaGreatDoor
open Go Go.RowKit
set_option linter.unusedVariables false

theorem OwnS.append {w : World} {B f : Nat} {xs ys : List Value} {ds es : List C} {F G : List Nat} (h : OwnS w B f xs ds F) (k : OwnS w B f ys es G) : OwnS w B f (xs ++ ys) (ds ++ es) (F ++ G) := by
  obtain ⟨h1, Fs, h2, rfl, h3⟩ := h
  obtain ⟨j1, Gs, j2, rfl, j3⟩ := k
  refine ⟨by simp [h1, j1], Fs ++ Gs, by simp [h2, j2], by simp, fun j u d Fm hu hd hF => ?_⟩
  by_cases hj : j < ds.length
  · rw [List.getElem?_append_left (by omega)] at hu hd hF
    exact h3 j u d Fm hu hd hF
  · rw [List.getElem?_append_right (by omega)] at hu hd hF
    rw [h1] at hu
    rw [h2] at hF
    exact j3 _ u d Fm hu hd hF
/-- Cells that hold no memory. -/
def setR : List Value → Nat → List Value → List Value
  | xs, _, [] => xs
  | xs, o, v :: r => setR (xs.set o v) (o + 1) r
theorem setR_length : ∀ (vs xs : List Value) (o : Nat), (setR xs o vs).length = xs.length
  | [], xs, o => rfl
  | v :: r, xs, o => by rw [setR, setR_length r]; simp
theorem setR_take : ∀ (vs xs : List Value) (o : Nat), o + vs.length ≤ xs.length → (setR xs o vs).take (o + vs.length) = xs.take o ++ vs
  | [], xs, o, _ => by simp [setR]
  | v :: r, xs, o, h => by
    simp only [List.length_cons] at h ⊢
    have ih := setR_take r (xs.set o v) (o + 1) (by simp; omega)
    rw [setR, show o + (r.length + 1) = o + 1 + r.length by omega, ih]
    have e : (xs.set o v).take (o + 1) = xs.take o ++ [v] := by
      rw [List.take_succ_eq_append_getElem (by simp; omega), List.take_set_of_le (Nat.le_refl _)]
      simp
    rw [e, List.append_assoc]
    rfl
/-- Cells are written one behind the other into a row of the call's own. -/
theorem own_setCells {B : Nat} {e : TypeId} {size g n c : Nat} : ∀ (vs xs : List Value) (o : Nat) (w : World), w.ownsRow B e size (.slice (some ⟨g, 0, none⟩) n c) n xs →
    (w.setCells g o vs).ownsRow B e size (.slice (some ⟨g, 0, none⟩) n c) n (setR xs o vs) ∧ w.grownBy (w.setCells g o vs) (some g)
  | [], xs, o, w, h => ⟨h, World.grownBy.refl _ _⟩
  | v :: r, xs, o, w, h => by
    have h1 := h.stored o v
    have h2 := own_setCells r (xs.set o v) (o + 1) (w.setCell ⟨g, o, none⟩ v) h1.1
    exact ⟨h2.1, grown_trans h1.2 h2.2⟩
theorem own_there {w : World} {B : Nat} {e : TypeId} {size g n c : Nat} {xs : List Value} (h : w.ownsRow B e size (.slice (some ⟨g, 0, none⟩) n c) n xs) (o m : Nat) (hm : o + m ≤ n * size) : w.there g o m := by
  intro j hj
  refine ⟨?_, h.frozenAt (o + j)⟩
  rw [h.cellAt (o + j) (by omega)]
  have := h.1
  rw [List.getElem?_eq_getElem (by omega)]
  rfl
/-- A struct is written into place k of a row of the call's own whose first k places are owned. -/
theorem own_fill {w w2 : World} {B f : Nat} {e : TypeId} {size g n c k : Nat} {xs us : List Value} {cells ds : List C} {F G : List Nat}
    (hown : w.ownsRow B e size (.slice (some ⟨g, 0, none⟩) n c) n xs) (hk : k < n) (hus : us.length = size) (ho : OwnS w B f (xs.take (k * size)) cells F) (hnd : F.Nodup) (hg : ∀ x ∈ F, x ≠ g)
    (hn : OwnS w B f us ds G) (hnG : G.Nodup) (hFG : ∀ x ∈ F, x ∉ G) (hgG : ∀ x ∈ G, x ≠ g) (hw2 : w2 = w.setCells g (k * size) us) :
    w2.ownsRow B e size (.slice (some ⟨g, 0, none⟩) n c) n (setR xs (k * size) us) ∧ OwnS w2 B f ((setR xs (k * size) us).take ((k + 1) * size)) (cells ++ ds) (F ++ G) ∧ (F ++ G).Nodup ∧ (∀ x ∈ F ++ G, x ≠ g) ∧ w.grownBy w2 (some g) := by
  subst hw2
  obtain ⟨h1, h2⟩ := own_setCells us xs (k * size) w hown
  have hlen := hown.1
  have hle : (k + 1) * size ≤ n * size := Nat.mul_le_mul_right _ hk
  rw [Nat.add_mul, Nat.one_mul] at hle
  refine ⟨h1, ?_, List.nodup_append.2 ⟨hnd, hnG, fun a ha b hb e => hFG a ha (by rw [e]; exact hb)⟩, fun x hx => ?_, h2⟩
  · rw [Nat.add_mul, Nat.one_mul, ← hus, setR_take us xs (k * us.length) (by rw [hus, hlen]; exact hle)]
    rw [hus]
    exact (OwnS.kept (fun x hx => h2.block x (ho.range x hx).2 (fun e => hg x hx (by injection e))) ho).append (OwnS.kept (fun x hx => h2.block x (hn.range x hx).2 (fun e => hgG x hx (by injection e))) hn)
  · rcases List.mem_append.1 hx with hx | hx
    · exact hg x hx
    · exact hgG x hx
/-- Filled. -/
theorem own_filled {w : World} {B f : Nat} {e : TypeId} {size n c g : Nat} {xs : List Value} {cells : List C} {F : List Nat} (hown : w.ownsRow B e size (.slice (some ⟨g, 0, none⟩) n c) n xs) (hl : cells.length = n * size)
    (ho : OwnS w B f (xs.take (n * size)) cells F) (hnd : F.Nodup) (hg : ∀ x ∈ F, x ≠ g) : OwnRow w B f e size (.slice (some ⟨g, 0, none⟩) n c) n cells := by
  have hlen := hown.1
  rw [List.take_of_length_le (by omega)] at ho
  exact ⟨xs, F, hown, hl, ho, hnd, fun x hx e => hg x hx (by simp [Value.ownBlock] at e; exact e.symm)⟩
/-- Strings of the call's own. -/
theorem ownS_strs {w : World} {B f : Nat} : ∀ (ks : List ByteArray), (∀ x ∈ ks, x.size ≤ maxLen) → OwnS w B (f + 1) (scells ks) (ks.map C.str) []
  | [], _ => OwnS.nil
  | s :: r, h => OwnS.cons (own_str (h s List.mem_cons_self)) (ownS_strs r (fun x hx => h x (List.mem_cons_of_mem _ hx)))
theorem ownS_ints {w : World} {B f : Nat} : ∀ (l : List Int), (∀ x ∈ l, (Lit.int .i64 x).wf = true) → OwnS w B (f + 1) (icells l) (l.map (C.int .i64)) []
  | [], _ => OwnS.nil
  | s :: r, h => OwnS.cons (own_int (h s List.mem_cons_self)) (ownS_ints r (fun x hx => h x (List.mem_cons_of_mem _ hx)))
theorem ownRow_strs {w : World} {B f : Nat} {e : TypeId} {v : Value} {ks : List ByteArray} (h : w.ownsRow B e 1 v ks.length (scells ks)) (hs : ∀ x ∈ ks, x.size ≤ maxLen) : OwnRow w B (f + 1) e 1 v ks.length (ks.map C.str) :=
  ⟨_, [], h, by simp, ownS_strs ks hs, List.nodup_nil, fun x hx => by cases hx⟩
theorem OwnRow.deeper {w : World} {B f f' : Nat} {e : TypeId} {size : Nat} {v : Value} {n : Nat} {cells : List C} (h : OwnRow w B f e size v n cells) (hf : f ≤ f') : OwnRow w B f' e size v n cells := by
  obtain ⟨xs, F, h1, h2, h3, h4⟩ := h
  exact ⟨xs, F, h1, h2, h3.deeper hf, h4⟩
theorem OwnRow.lower {w : World} {B B' f : Nat} {e : TypeId} {size : Nat} {v : Value} {n : Nat} {cells : List C} (h : OwnRow w B f e size v n cells) (hB : B' ≤ B) : OwnRow w B' f e size v n cells := by
  obtain ⟨xs, F, ⟨h0, h1⟩, h2, h3, h4⟩ := h
  refine ⟨xs, F, ⟨h0, ?_⟩, h2, h3.lower hB, h4⟩
  rcases h1 with h1 | ⟨g, cap, cur, k1, k2, k3⟩
  · exact .inl h1
  · exact .inr ⟨g, cap, cur, k1, Nat.le_trans hB k2, k3⟩
/-- An owned slice is a row. -/
theorem own_strs_row {w : World} {B f n : Nat} {v : Value} {ks : List ByteArray} {F : List Nat} (h : Own w B f v (.sl 1 n (ks.map C.str)) F) : ∃ e, w.ownsRow B e 1 v n (scells ks) ∧ n = ks.length ∧ (v.ownBlock = none ∧ F = [] ∨ ∃ g, v.ownBlock = some g ∧ F = [g]) := by
  cases f with
  | zero => exact h.elim
  | succ f =>
    obtain ⟨hl, ⟨rfl, rfl, rfl⟩ | ⟨g, c, cur, e, Fs, rfl, h1, h2, h3, h4, hz, rfl, h5, h6⟩⟩ := h
    · have : ks = [] := List.eq_nil_of_length_eq_zero (by simpa using hl)
      subst this
      exact ⟨0, World.ownsRow_nil _ _ _ _, rfl, .inl ⟨rfl, rfl⟩⟩
    · have hn : n = ks.length := by simpa using hl.symm
      subst hn
      have hcell : ∀ m, m < ks.length → ∃ Fm, Fs[m]? = some Fm ∧ Fm = [] ∧ cur[m]? = some (.string (ks.getD m ⟨#[]⟩)) := fun m hm => by
        have hF : Fs[m]? = some (Fs[m]'(by rw [h5]; simpa using hm)) := List.getElem?_eq_getElem _
        obtain ⟨u, hu, ho⟩ := h6 m (.str ks[m]) _ (by simp [hm]) hF
        refine ⟨_, hF, ho.flat trivial, ?_⟩
        rw [hu, (ho.lies).str.1]
        simp [List.getD, hm]
      have hFs : Fs.flatten = [] := by
        rw [List.flatten_eq_nil_iff]
        intro Fm hFm
        obtain ⟨m, hm, rfl⟩ := List.getElem_of_mem hFm
        obtain ⟨Fm', h7, h8, _⟩ := hcell m (by rw [h5] at hm; simpa using hm)
        rw [List.getElem?_eq_getElem hm] at h7
        injection h7 with h7
        rw [h7, h8]
      refine ⟨e, ⟨by rw [scells_length]; simp, .inr ⟨g, c, cur, rfl, h3, h4, h1, h2, hz, ?_⟩⟩, rfl, .inr ⟨g, rfl, by rw [hFs]⟩⟩
      apply List.ext_getElem?
      intro m
      by_cases hm : m < ks.length
      · obtain ⟨_, _, _, h8⟩ := hcell m hm
        rw [List.getElem?_take_of_lt (by omega), Array.getElem?_toList, h8, scells_get ks m hm]
        simp [List.getD, hm]
      · rw [List.getElem?_eq_none (by rw [List.length_take]; omega), List.getElem?_eq_none (by rw [scells_length]; omega)]
theorem own_row_setCell {w : World} {B f : Nat} {e : TypeId} {size : Nat} {v : Value} {n : Nat} {cells : List C} {g o : Nat} {u : Value} (h : OwnRow w B f e size v n cells) (hg : g < B) : OwnRow (w.setCell ⟨g, o, none⟩ u) B f e size v n cells := by
  obtain ⟨xs, F, h1, h2, h3, h4, h5⟩ := h
  have hk : ∀ x, B ≤ x → (w.setCell ⟨g, o, none⟩ u).heap[x]? = w.heap[x]? := fun x hx => Below.heap_setCell _ _ _ _ (by show x ≠ g; omega)
  refine ⟨xs, F, ⟨h1.1, ?_⟩, h2, OwnS.kept (fun x hx => hk x (h3.range x hx).1) h3, h4, h5⟩
  rcases h1.2 with h6 | ⟨k, cap, cur, k1, k2, k3, k4⟩
  · exact .inl h6
  · exact .inr ⟨k, cap, cur, k1, k2, (hk k k2).trans k3, k4⟩
theorem own_row_setRow {w : World} {B f : Nat} {e : TypeId} {size : Nat} {v : Value} {n : Nat} {cells : List C} {g : Nat} {c : Array Value} (h : OwnRow w B f e size v n cells) (hg : g < B) : OwnRow (w.setRow g c) B f e size v n cells := by
  obtain ⟨xs, F, h1, h2, h3, h4, h5⟩ := h
  have hk : ∀ x, B ≤ x → (w.setRow g c).heap[x]? = w.heap[x]? := fun x hx => by
    simp only [World.setRow, Array.getElem?_modify]
    rw [if_neg (by omega)]
  refine ⟨xs, F, ⟨h1.1, ?_⟩, h2, OwnS.kept (fun x hx => hk x (h3.range x hx).1) h3, h4, h5⟩
  rcases h1.2 with h6 | ⟨k, cap, cur, k1, k2, k3, k4⟩
  · exact .inl h6
  · exact .inr ⟨k, cap, cur, k1, k2, (hk k k2).trans k3, k4⟩
theorem Own.setCell_low {w : World} {B f : Nat} {v : Value} {d : C} {F : List Nat} (h : Own w B f v d F) {g o : Nat} {u : Value} (hg : g < B) : Own (w.setCell ⟨g, o, none⟩ u) B f v d F :=
  h.kept (fun x hx => Below.heap_setCell _ _ _ _ (by have := (h.range x hx).1; show x ≠ g; omega))
theorem Own.setRow_low {w : World} {B f : Nat} {v : Value} {d : C} {F : List Nat} (h : Own w B f v d F) {g : Nat} {c : Array Value} (hg : g < B) : Own (w.setRow g c) B f v d F :=
  h.kept (fun x hx => by
    have := (h.range x hx).1
    simp only [World.setRow, Array.getElem?_modify]
    rw [if_neg (by omega)])
theorem Own.one {w : World} {B f : Nat} {v : Value} {d : C} {F : List Nat} (h : Own w B f v d F) : v.oneCell' = true := by
  cases f with
  | zero => exact h.elim
  | succ f =>
    cases d with
    | int k n => obtain ⟨⟨rfl, _⟩, _⟩ := h; rfl
    | bool b => obtain ⟨rfl, _⟩ := h; rfl
    | str s => obtain ⟨⟨rfl, _⟩, _⟩ := h; rfl
    | sl size n cells =>
      obtain ⟨_, ⟨rfl, _⟩ | ⟨g, c, cur, e, Fs, rfl, _⟩⟩ := h <;> rfl
theorem OwnS.one {w : World} {B f : Nat} {vs : List Value} {ds : List C} {F : List Nat} (h : OwnS w B f vs ds F) : vs.toArray.all (·.oneCell') = true := by
  obtain ⟨h1, Fs, h2, rfl, h3⟩ := h
  refine all_oneCell_toArray fun v hv => ?_
  obtain ⟨m, hm, rfl⟩ := List.getElem_of_mem hv
  exact (h3 m _ _ _ (List.getElem?_eq_getElem hm) (List.getElem?_eq_getElem (by omega)) (List.getElem?_eq_getElem (by omega))).one
theorem own_below' {w w' : World} {B : Nat} {e : TypeId} {size : Nat} {v : Value} {n : Nat} {xs : List Value} (h : w.ownsRow B e size v n xs) (hb : Below w.heap.size w w') : w'.ownsRow B e size v n xs :=
  h.kept (grown_of_below hb none) (by
    by_cases hv : v.ownBlock = none
    · exact .inl hv
    · exact .inr hv)
/-- The cells of one row among others. -/
def mid (L ds R : List C) : List C := L ++ (ds ++ R)
theorem mid_get {L ds R : List C} {o r : Nat} (ho : L.length = o) (hr : r < ds.length) : (mid L ds R)[o + r]? = ds[r]? := by
  unfold mid
  rw [List.getElem?_append_right (by omega), ho, Nat.add_sub_cancel_left, List.getElem?_append_left hr]
theorem mid_set {L ds R : List C} {o r : Nat} (ho : L.length = o) (hr : r < ds.length) (d : C) : (mid L ds R).set (o + r) d = mid L (ds.set r d) R := by
  unfold mid
  rw [List.set_append_right _ _ (by omega), ho, Nat.add_sub_cancel_left, List.set_append_left _ _ hr]
/-- A field of one row: what lies there, and that it may be written. -/
theorem Own.field {w : World} {B f g n c size : Nat} {L ds R : List C} {F : List Nat} (h : Own w B (f + 1) (.slice (some ⟨g, 0, none⟩) n c) (.sl size n (mid L ds R)) F) (hnd : F.Nodup) {o r : Nat} (ho : L.length = o) {d : C} (hd : ds[r]? = some d) :
    ∃ (u : Value) (Fm : List Nat), w.cell? ⟨g, o + r, none⟩ = some u ∧ w.frozen? ⟨g, o + r, none⟩ = false ∧ Own w B f u d Fm ∧ (∀ x ∈ Fm, x ∈ F) ∧ g ∈ F ∧ g ∉ Fm ∧ Fm.Nodup ∧
      ∀ (w' : World) (d' : C), KeptBut Fm w w' → Own w' B f u d' Fm → Own w' B (f + 1) (.slice (some ⟨g, 0, none⟩) n c) (.sl size n (mid L (ds.set r d') R)) F := by
  have hr : r < ds.length := (List.getElem?_eq_some_iff.1 hd).1
  obtain ⟨u, Fm, h1, h2, h3, h4, h5, h6, h7, h8⟩ := h.sub hnd (m := o + r) (d := d) (by rw [mid_get ho hr]; exact hd)
  refine ⟨u, Fm, h1, h2, h3, h4, h5, h6, h7, fun w' d' hk ho' => ?_⟩
  have := h8 w' d' hk ho'
  rw [mid_set ho hr] at this
  exact this
/-- A number, a truth or a string is written into a field of one row. -/
theorem Own.put {w : World} {B f g n c size : Nat} {L ds R : List C} {F : List Nat} (h : Own w B (f + 1) (.slice (some ⟨g, 0, none⟩) n c) (.sl size n (mid L ds R)) F) (hnd : F.Nodup) {o r : Nat} (ho : L.length = o) {d d' : C} (hd : ds[r]? = some d) (hf : d.flat) {u' : Value}
    (hu' : ∀ w', Own w' B f u' d' []) : Own (w.setCell ⟨g, o + r, none⟩ u') B (f + 1) (.slice (some ⟨g, 0, none⟩) n c) (.sl size n (mid L (ds.set r d') R)) F ∧ KeptBut F w (w.setCell ⟨g, o + r, none⟩ u') ∧
      (∃ u, w.cell? ⟨g, o + r, none⟩ = some u) ∧ w.frozen? ⟨g, o + r, none⟩ = false := by
  have hr : r < ds.length := (List.getElem?_eq_some_iff.1 hd).1
  have hm : (mid L ds R)[o + r]? = some d := by rw [mid_get ho hr]; exact hd
  obtain ⟨u, Fm, h1, h2, _⟩ := h.sub hnd hm
  obtain ⟨h3, h4⟩ := h.store hnd hm hf hu'
  rw [mid_set ho hr] at h3
  exact ⟨h3, h4, ⟨u, h1⟩, h2⟩
/-- Strings of an owned slice written anew, in the same blocks. -/
theorem own_strs_back {w : World} {B f n : Nat} {e : TypeId} {v : Value} {ks : List ByteArray} (h : w.ownsRow B e 1 v n (scells ks)) (hn : n = ks.length) (hs : ∀ x ∈ ks, x.size ≤ maxLen) {F : List Nat} (hF : v.ownBlock = none ∧ F = [] ∨ ∃ g, v.ownBlock = some g ∧ F = [g]) : Own w B (f + 2) v (.sl 1 n (ks.map C.str)) F := by
  subst hn
  obtain ⟨h1, Fs, h2, h3, h4⟩ := ownS_strs (w := w) (B := B) (f := f) ks hs
  obtain ⟨F', h5, h6⟩ := own_of_row (B := B) h (Nat.le_refl _) (by simp) h2 h4
  have : F' = F := by
    rcases h6 with ⟨rfl, rfl⟩ | ⟨g, c, rfl, _, _, rfl⟩
    · rcases hF with ⟨_, rfl⟩ | ⟨g, hg, _⟩
      · rfl
      · simp [Value.ownBlock] at hg
    · rcases hF with ⟨hg, _⟩ | ⟨g', hg, rfl⟩
      · simp [Value.ownBlock] at hg
      · simp [Value.ownBlock] at hg
        rw [← h3, hg]
  subst this
  exact h5
theorem KeptBut.of_row {w w' : World} {v : Value} {F : List Nat} (h : w.grownBy w' v.ownBlock) (hF : v.ownBlock = none ∧ F = [] ∨ ∃ g, v.ownBlock = some g ∧ F = [g]) : KeptBut F w w' := by
  refine ⟨h.os, h.tape, h.output, h.size, fun k hk hn => h.block k hk (fun e => hn ?_)⟩
  rcases hF with ⟨hv, rfl⟩ | ⟨g, hv, rfl⟩
  · rw [hv] at e; cases e
  · rw [hv] at e; injection e with e; simp [e]
theorem own_strs_again {w w' : World} {B f n : Nat} {e : TypeId} {v : Value} {ks ks' : List ByteArray} {F : List Nat} (h0 : Own w B (f + 1) v (.sl 1 n (ks.map C.str)) F) (h : w'.ownsRow B e 1 v n (scells ks')) (hn : n = ks'.length) (hs : ∀ x ∈ ks', x.size ≤ maxLen)
    (hF : v.ownBlock = none ∧ F = [] ∨ ∃ g, v.ownBlock = some g ∧ F = [g]) : Own w' B (f + 1) v (.sl 1 n (ks'.map C.str)) F := by
  cases f with
  | succ f => exact own_strs_back h hn hs hF
  | zero =>
    obtain ⟨hl, ⟨rfl, rfl, rfl⟩ | ⟨g, c, cur, e0, Fs, rfl, h1, h2, h3, h4, hz, rfl, h5, h6⟩⟩ := h0
    · have : ks' = [] := List.eq_nil_of_length_eq_zero hn.symm
      subst this
      exact own_nil w' B 0 1
    · have hk : n = 0 := by
        rcases Nat.eq_zero_or_pos n with hk | hk
        · exact hk
        · have hm : 0 < (ks.map C.str).length := by omega
          obtain ⟨u, _, ho⟩ := h6 0 _ _ (List.getElem?_eq_getElem hm) (List.getElem?_eq_getElem (by omega))
          exact ho.elim
      subst hk
      have h7 : ks' = [] := List.eq_nil_of_length_eq_zero hn.symm
      subst h7
      have h8 : Fs = [] := List.eq_nil_of_length_eq_zero (by rw [h5, hl, Nat.zero_mul])
      subst h8
      rcases h.2 with ⟨h9, _⟩ | ⟨k, cap, cur', h9, k2, k3, k4, k5, k6, k7⟩
      · cases h9
      · injection h9 with e1 e2 e3
        injection e1 with e1
        injection e1 with e1
        subst e1 e3
        exact ⟨by simp, .inr ⟨g, c, cur', e, [], rfl, k4, k5, k2, k3, k6, rfl, rfl, fun m d Fm hd => by simp at hd⟩⟩
theorem six_of {α : Type} {vs : List α} (h : vs.length = 6) : ∃ u0 u1 u2 u3 u4 u5, vs = [u0, u1, u2, u3, u4, u5] := by
  match vs, h with
  | [u0, u1, u2, u3, u4, u5], _ => exact ⟨u0, u1, u2, u3, u4, u5, rfl⟩
/-- Block g holds these six cells. -/
def Row6 (w : World) (g : Nat) (u0 u1 u2 u3 u4 u5 : Value) : Prop :=
  w.cell? ⟨g, 0, none⟩ = some u0 ∧ w.cell? ⟨g, 1, none⟩ = some u1 ∧ w.cell? ⟨g, 2, none⟩ = some u2 ∧ w.cell? ⟨g, 3, none⟩ = some u3 ∧ w.cell? ⟨g, 4, none⟩ = some u4 ∧ w.cell? ⟨g, 5, none⟩ = some u5
theorem Row6.of {w : World} {g : Nat} {u0 u1 u2 u3 u4 u5 : Value} {e : TypeId} (h : w.heap[g]? = some (.cells #[u0, u1, u2, u3, u4, u5] e (0, 0))) : Row6 w g u0 u1 u2 u3 u4 u5 :=
  ⟨by rw [cell_of_row w g 0 _ _ _ h]; rfl, by rw [cell_of_row w g 1 _ _ _ h]; rfl, by rw [cell_of_row w g 2 _ _ _ h]; rfl, by rw [cell_of_row w g 3 _ _ _ h]; rfl, by rw [cell_of_row w g 4 _ _ _ h]; rfl, by rw [cell_of_row w g 5 _ _ _ h]; rfl⟩
theorem Row6.below {w w' : World} {g : Nat} {u0 u1 u2 u3 u4 u5 : Value} (h : Row6 w g u0 u1 u2 u3 u4 u5) (hb : Below w.heap.size w w') : Row6 w' g u0 u1 u2 u3 u4 u5 := by
  have k : ∀ (j : Nat) (u : Value), w.cell? ⟨g, j, none⟩ = some u → w'.cell? ⟨g, j, none⟩ = some u := fun j u hu => (hb.cell (World.block_lt_of_cell? _ _ hu)).trans hu
  exact ⟨k 0 _ h.1, k 1 _ h.2.1, k 2 _ h.2.2.1, k 3 _ h.2.2.2.1, k 4 _ h.2.2.2.2.1, k 5 _ h.2.2.2.2.2⟩
theorem below_link {w a b : World} {B : Nat} (h : Below B w a) (k : Below a.heap.size a b) (hB : B ≤ a.heap.size) : Below B w b := h.trans (k.mono hB)
theorem Row6.but {w w' : World} {g : Nat} {u0 u1 u2 u3 u4 u5 : Value} {F : List Nat} (h : Row6 w g u0 u1 u2 u3 u4 u5) (hk : KeptBut F w w') (hg : g ∉ F) : Row6 w' g u0 u1 u2 u3 u4 u5 := by
  have k : ∀ (j : Nat) (u : Value), w.cell? ⟨g, j, none⟩ = some u → w'.cell? ⟨g, j, none⟩ = some u := fun j u hu => (World.cell?_of_block (hk.block g (World.block_lt_of_cell? _ _ hu) hg)).trans hu
  exact ⟨k 0 _ h.1, k 1 _ h.2.1, k 2 _ h.2.2.1, k 3 _ h.2.2.2.1, k 4 _ h.2.2.2.2.1, k 5 _ h.2.2.2.2.2⟩
end Go.Proofs.YtangdmjdjiddcaaGreatDoor
namespace Go.Proofs.YtangdmjdjiddcaaGreatDoor.tree
open Go.ChangeShapes Go.WideShapes Go.ChangeAt Go.RowKit
set_option linter.unusedVariables false

theorem tree_size : (Tryz.prog.info? 27).map (·.size) = some 6 := by kernel_rfl
theorem tree_one (k : Int) (fl : Bool) (n : Int) (s : ByteArray) (A1 A2 : Option Addr) (n1 c1 n2 c2 : Nat) : (#[.int .i64 k, .bool fl, .int .i64 n, .string s, .slice A1 n1 c1, .slice A2 n2 c2] : Array Value).all (·.oneCell') = true := by simp [Value.oneCell']
/-- At a depth. -/
def ToKids (f : Nat) : Prop := ∀ (A : Option Addr) (c : Nat) (kids : List T) (w : World), kids.length ≤ c → c ≤ maxLen → KidsAt w f A kids → kids.length + weights kids ≤ 1048576 →
  Calls Tryz.prog 38 #[.slice A kids.length c] w fun e w' => ∃ A' c', e = .returned (.slice A' kids.length c') ∧ OwnRow w' w.heap.size (f + 2) 27 6 (.slice A' kids.length c') kids.length (rows kids) ∧ Below w.heap.size w w'
def TreeOut (B f : Nat) (t : T) (e : Ending) (w' : World) : Prop := ∃ us F, e = .returned (.agg us.toArray) ∧ OwnS w' B f us (row t) F ∧ F.Nodup

theorem to_of {f : Nat} (hP : ToKids f) (t : T) (vs : List Value) (w : World) (h : LiesS w (f + 1) vs (row t)) (hw : weight t ≤ 1048576) :
    Calls Tryz.prog 17 #[.agg vs.toArray] w fun e w' => TreeOut w.heap.size (f + 3) t e w' ∧ Below w.heap.size w w' := by
  obtain ⟨k, fl, n, s, ks, kids⟩ := t
  obtain ⟨A1, c1, A2, c2, rfl, wk, wn, hs, hc1, hc2, hr, hks, hc3, hc4, f', hf, hk⟩ := open_tree h
  obtain rfl : f = f' := by omega
  clear h hf
  rw [weight] at hw
  obtain ⟨w1, hw1⟩ : ∃ w1, w1 = ((w.alloc (.cells #[.int .i64 k, .bool fl, .int .i64 n, .string s, .slice A1 ks.length c1, .slice A2 kids.length c2] 43)).alloc (.cells #[.int .i64 0, .bool false, .int .i64 0, .string ⟨#[]⟩, .slice none 0 0, .slice none 0 0] 27)).alloc (.cells #[.int .i64 k, .bool fl, .int .i64 n, .string s, .slice none 0 0, .slice none 0 0] 27) := ⟨_, rfl⟩
  have hsz : w1.heap.size = w.heap.size + 3 := by subst hw1; simp
  have hb1 : Below w.heap.size w w1 := by subst hw1; exact (((Below.refl _ _).alloc (Nat.le_refl _) _).alloc (by simp) _).alloc (by simp; omega) _
  have h10 : w1.heap[w.heap.size]? = some (.cells #[.int .i64 k, .bool fl, .int .i64 n, .string s, .slice A1 ks.length c1, .slice A2 kids.length c2] 43 (0, 0)) := by
    subst hw1
    rw [Below.heap_alloc _ _ _ (by simp; omega), Below.heap_alloc _ _ _ (by simp)]
    exact heap_alloc_new w _
  have h11 : w1.heap[w.heap.size + 1]? = some (.cells #[.int .i64 0, .bool false, .int .i64 0, .string ⟨#[]⟩, .slice none 0 0, .slice none 0 0] 27 (0, 0)) := by
    subst hw1
    rw [Below.heap_alloc _ _ _ (by simp)]
    have h := heap_alloc_new (w.alloc (.cells #[.int .i64 k, .bool fl, .int .i64 n, .string s, .slice A1 ks.length c1, .slice A2 kids.length c2] 43)) (.cells #[.int .i64 0, .bool false, .int .i64 0, .string ⟨#[]⟩, .slice none 0 0, .slice none 0 0] 27)
    simpa using h
  have h12 : w1.heap[w.heap.size + 2]? = some (.cells #[.int .i64 k, .bool fl, .int .i64 n, .string s, .slice none 0 0, .slice none 0 0] 27 (0, 0)) := by
    subst hw1
    have h := heap_alloc_new ((w.alloc (.cells #[.int .i64 k, .bool fl, .int .i64 n, .string s, .slice A1 ks.length c1, .slice A2 kids.length c2] 43)).alloc (.cells #[.int .i64 0, .bool false, .int .i64 0, .string ⟨#[]⟩, .slice none 0 0, .slice none 0 0] 27)) (.cells #[.int .i64 k, .bool fl, .int .i64 n, .string s, .slice none 0 0, .slice none 0 0] 27)
    simpa using h
  have HS := Lib.hid (lawStr.to_any A1 ks.length c1 ks w1 (by omega) rfl (hr.below hb1))
  have HP := Lib.hid (fun w2 (hb : Below w.heap.size w w2) => hP A2 c2 kids w2 hc3 hc4 (hk.below hb) (by omega))
  have Hw := Lib.hid (show (Lit.int .i64 k).wf = true ∧ (Lit.int .i64 n).wf = true ∧ s.size ≤ maxLen ∧ ∀ x ∈ ks, x.size ≤ maxLen from ⟨wk, wn, hs, hks⟩)
  have H10 := Lib.hid h10
  have H11 := Lib.hid h11
  have H12 := Lib.hid h12
  have Hb1 := Lib.hid hb1
  have Hsz := Lib.hid hsz
  have Hw1 := Lib.hid hw1
  clear hr hks hk hP hc1 hc2 hc3 hc4 hw wk wn hs h10 h11 h12 hb1 hsz hw1
  go_enter Tryz.func17, Tryz.ntmps17
  go_wp2_with fail
  rw [← Hw1.out]
  refine HS.out.mono ?_
  rintro e w2 ⟨g1, rfl, hown1, hb2⟩
  have Hown1 := Lib.hid (ownRow_strs (f := f + 1) hown1 Hw.out.2.2.2)
  have h20 := heap_kept hb2 (by rw [Hsz.out]; omega) H10.out
  have h21 := heap_kept hb2 (by rw [Hsz.out]; omega) H11.out
  have h22 := heap_kept hb2 (by rw [Hsz.out]; omega) H12.out
  have Hb2 := Lib.hid (Hb1.out.trans (hb2.mono Hb1.out.size))
  have p4 : w2.cell? ⟨w.heap.size + 2, 4, none⟩ = some (.slice none 0 0) := by rw [cell_of_row w2 _ 4 _ _ _ h22]; rfl
  have f4 := frozen_of_row w2 _ 4 _ _ h22
  have h30 : (w2.setCell ⟨w.heap.size + 2, 4, none⟩ (.slice (some ⟨g1, 0, none⟩) ks.length ks.length)).heap[w.heap.size]? = _ := (Below.heap_setCell _ _ _ _ (by show w.heap.size ≠ w.heap.size + 2; omega)).trans h20
  have h31 : (w2.setCell ⟨w.heap.size + 2, 4, none⟩ (.slice (some ⟨g1, 0, none⟩) ks.length ks.length)).heap[w.heap.size + 1]? = _ := (Below.heap_setCell _ _ _ _ (by show w.heap.size + 1 ≠ w.heap.size + 2; omega)).trans h21
  have h32 : (w2.setCell ⟨w.heap.size + 2, 4, none⟩ (.slice (some ⟨g1, 0, none⟩) ks.length ks.length)).heap[w.heap.size + 2]? = some (.cells #[.int .i64 k, .bool fl, .int .i64 n, .string s, .slice (some ⟨g1, 0, none⟩) ks.length ks.length, .slice none 0 0] 27 (0, 0)) := heap_setCell_same _ _ _ _ _ _ h22
  have p5 : (w2.setCell ⟨w.heap.size + 2, 4, none⟩ (.slice (some ⟨g1, 0, none⟩) ks.length ks.length)).cell? ⟨w.heap.size, 5, none⟩ = some (.slice A2 kids.length c2) := by rw [cell_of_row _ _ 5 _ _ _ h30]; rfl
  have hb3 : Below w.heap.size w (w2.setCell ⟨w.heap.size + 2, 4, none⟩ (.slice (some ⟨g1, 0, none⟩) ks.length ks.length)) := Hb2.out.setCell (by show w.heap.size ≤ w.heap.size + 2; omega) _
  have hor3 : OwnRow (w2.setCell ⟨w.heap.size + 2, 4, none⟩ (.slice (some ⟨g1, 0, none⟩) ks.length ks.length)) w1.heap.size (f + 2) 9 1 (.slice (some ⟨g1, 0, none⟩) ks.length ks.length) ks.length (ks.map C.str) :=
    own_row_setCell Hown1.out (by show w.heap.size + 2 < w1.heap.size; rw [Hsz.out]; omega)
  have HP3 := Lib.hid (HP.out _ hb3)
  have H31 := Lib.hid h31
  have H32 := Lib.hid h32
  have Hb3 := Lib.hid hb3
  obtain ⟨F1, hok, nd1, rg1⟩ := hor3.own
  have Hok := Lib.hid hok
  have Hn1 := Lib.hid nd1
  have Hr1 := Lib.hid rg1
  have Hs3 := Lib.hid (show w1.heap.size ≤ (w2.setCell ⟨w.heap.size + 2, 4, none⟩ (.slice (some ⟨g1, 0, none⟩) ks.length ks.length)).heap.size by simpa [World.setCell] using hb2.size)
  clear HS HP hown1 hb2 h20 h21 h22 h30 h31 h32 hb3 hor3 hok nd1 rg1 Hown1 H10 H11 H12 Hb1 Hw1 Hb2
  go_wp2_with fail
  generalize w2.setCell ⟨w.heap.size + 2, 4, none⟩ (.slice (some ⟨g1, 0, none⟩) ks.length ks.length) = w3 at *
  refine HP3.out.mono ?_
  rintro e w4 ⟨A', c', rfl, hown4, hb4⟩
  have h41 := heap_kept hb4 (heap_lt H31.out) H31.out
  have h42 := heap_kept hb4 (heap_lt H32.out) H32.out
  obtain ⟨F2, hok2, nd2, rg2⟩ := hown4.own
  have Hok4 := Lib.hid (Hok.out.below hb4)
  have Hb4 := Lib.hid (Hb3.out.trans (hb4.mono Hb3.out.size))
  have p6 : w4.cell? ⟨w.heap.size + 2, 5, none⟩ = some (.slice none 0 0) := by rw [cell_of_row w4 _ 5 _ _ _ h42]; rfl
  have f6 := frozen_of_row w4 _ 5 _ _ h42
  have h51 : (w4.setCell ⟨w.heap.size + 2, 5, none⟩ (.slice A' kids.length c')).heap[w.heap.size + 1]? = _ := (Below.heap_setCell _ _ _ _ (by show w.heap.size + 1 ≠ w.heap.size + 2; omega)).trans h41
  have h52 : (w4.setCell ⟨w.heap.size + 2, 5, none⟩ (.slice A' kids.length c')).heap[w.heap.size + 2]? = some (.cells #[.int .i64 k, .bool fl, .int .i64 n, .string s, .slice (some ⟨g1, 0, none⟩) ks.length ks.length, .slice A' kids.length c'] 27 (0, 0)) := heap_setCell_same _ _ _ _ _ _ h42
  have Hb5 := Lib.hid (show Below w.heap.size w (w4.setCell ⟨w.heap.size + 2, 5, none⟩ (.slice A' kids.length c')) from Hb4.out.setCell (by show w.heap.size ≤ w.heap.size + 2; omega) _)
  have hlt3 : w.heap.size + 2 < w3.heap.size := heap_lt H32.out
  have Hok5 := Lib.hid (Hok4.out.setCell_low (o := 5) (u := .slice A' kids.length c') (show w.heap.size + 2 < w1.heap.size by rw [Hsz.out]; omega))
  have Hkid5 := Lib.hid (hok2.setCell_low (o := 5) (u := .slice A' kids.length c') hlt3)
  have Hd5 := Lib.hid (show ∀ x ∈ F1, x ∉ F2 from fun x hx hy => by have h1 := (Hr1.out x hx).2; have h2 := (rg2 x hy).1; omega)
  have Hn2 := Lib.hid nd2
  have Hs5 := Lib.hid (Nat.le_trans Hs3.out hb4.size)
  clear hown4 hb4 HP3 h41 h42 H31 H32 Hb3 Hok Hok4 hok2 nd2 rg2 Hb4 p4 p5 f4
  have h51' := h51
  have h52' := h52
  clear h51 h52
  generalize hw5 : w4.setCell ⟨w.heap.size + 2, 5, none⟩ (.slice A' kids.length c') = w5 at *
  have H51 := Lib.hid h51'
  go_wp2_with (first | (refine wpList_load_row rfl 27 _ rfl (w.heap.size + 2) rfl 27 #[.int .i64 k, .bool fl, .int .i64 n, .string s, .slice (some ⟨g1, 0, none⟩) ks.length ks.length, .slice A' kids.length c'] (0, 0) _ h52' Tryz.underlying27 rfl tree_size ?_) | (refine wpList_store_row rfl 27 _ _ rfl (w.heap.size + 1) #[.int .i64 k, .bool fl, .int .i64 n, .string s, .slice (some ⟨g1, 0, none⟩) ks.length ks.length, .slice A' kids.length c'] rfl rfl 27 _ h51' tree_size rfl (tree_one _ _ _ _ _ _ _ _ _ _) ?_) | fail)
  have Hok6 := (Hok5.out.setRow_low (c := #[.int .i64 k, .bool fl, .int .i64 n, .string s, .slice (some ⟨g1, 0, none⟩) ks.length ks.length, .slice A' kids.length c']) (show w.heap.size + 1 < w1.heap.size by rw [Hsz.out]; omega)).lower (B' := w.heap.size) (by rw [Hsz.out]; omega)
  have Hkid6 := (Hkid5.out.setRow_low (c := #[.int .i64 k, .bool fl, .int .i64 n, .string s, .slice (some ⟨g1, 0, none⟩) ks.length ks.length, .slice A' kids.length c']) (show w.heap.size + 1 < w3.heap.size by omega)).lower (B' := w.heap.size) (by omega)
  obtain ⟨F, ho, hnd, _⟩ := own_tree (fl := fl) Hw.out.1 Hw.out.2.1 Hw.out.2.2.1 Hok6 Hkid6 Hn1.out Hn2.out Hd5.out
  refine bodyPost_ret (v := .agg #[.int .i64 k, .bool fl, .int .i64 n, .string s, .slice (some ⟨g1, 0, none⟩) ks.length ks.length, .slice A' kids.length c']) ?_ rfl ⟨⟨_, F, rfl, ho, hnd⟩, setRow_below Hb5.out (by omega) _⟩
  exact results_cell_row rfl _ _ (w.heap.size + 1) _ _ (0, 0) _ rfl (setRow_at H51.out) Tryz.underlying27 rfl tree_size

theorem TryzinfoTree : (Tryz.prog.info? 27).map (fun i => (i.zero, i.size, i.bytes)) = some (some (.agg #[.int .i64 0, .bool false, .int .i64 0, .string ⟨#[]⟩, .slice none 0 0, .slice none 0 0]), 6, 88) := by kernel_rfl

set_option maxRecDepth 100000 in
theorem to_kids_step {f : Nat} (hE : ∀ (t : T) (vs : List Value) (w : World), LiesS w f vs (row t) → weight t ≤ 1048576 →
    Calls Tryz.prog 17 #[.agg vs.toArray] w fun e w' => TreeOut w.heap.size (f + 2) t e w' ∧ Below w.heap.size w w') : ToKids f := by
  intro A c kids w hc hm hk hw
  obtain ⟨i0, hi, hz0, hz1, hz2⟩ := info_parts TryzinfoTree
  have Hk := Lib.hid hk
  have HE := Lib.hid hE
  clear hk hE
  unfold maxLen at hm
  go_enter Tryz.func38, Tryz.ntmps38
  go_wp2_with (at_make; refine wpList_make_full _ rfl _ _ 25 rfl w.heap.size 27 i0 _ 6 Tryz.underlying25 hi hz0 hz1 .i64 .i64 (kids.length : Int) (kids.length : Int) kids.length rfl rfl rfl rfl (by rw [hz2]; omega) (by unfold maxLen; omega) (by simp) ?_)
  intro w1 hown1 hg1
  have hb1 : Below w.heap.size w w1 := (Below.refl _ _).grown hg1 (Nat.le_refl _) (fun b hb => by cases hb)
  obtain ⟨xs, hown⟩ : ∃ xs : List Value, w1.ownsRow w.heap.size 27 6 (.slice (some ⟨w.heap.size, 0, none⟩) kids.length kids.length) kids.length xs := ⟨_, hown1⟩
  have Hown := Lib.hid hown
  have Hb1 := Lib.hid hb1
  clear hown1 hown hb1 hg1
  go_wp2_with fail
  go_loopw [4] (fun i wr => ∃ (k : Nat) (xs : List Value) (F : List Nat), k ≤ kids.length ∧ i = .int .i64 k ∧ wr.ownsRow w.heap.size 27 6 (.slice (some ⟨w.heap.size, 0, none⟩) kids.length kids.length) kids.length xs ∧
    OwnS wr w.heap.size (f + 2) (xs.take (k * 6)) (rows (kids.take k)) F ∧ F.Nodup ∧ (∀ x ∈ F, x ≠ w.heap.size) ∧ Below w.heap.size w wr) (fun i _ => kids.length - (intOf i).toNat)
  case atStart => exact ⟨0, xs, [], Nat.zero_le _, rfl, Hown.out, by simpa [rows] using OwnS.nil, List.nodup_nil, (fun x hx => by cases hx), Hb1.out⟩
  case round =>
    clear Hown Hb1 xs
    obtain ⟨k, xs, F, hk, rfl, hown, ho, hnd, hne, hbel⟩ := hrel
    by_cases hlt : k < kids.length
    · obtain ⟨g, o, rfl, hg, hkid⟩ := (Hk.out.below hbel) (by omega)
      obtain ⟨u0, u1, u2, u3, u4, u5, ⟨q0, q1, q2, q3, q4, q5⟩, hls⟩ := hkid k kids[k] (List.getElem?_eq_getElem hlt)
      have hwk : weight kids[k] ≤ 1048576 := by
        have h1 : weights kids = weights (kids.take (k + 1)) + weights (kids.drop (k + 1)) := by rw [← weights_append, List.take_append_drop]
        rw [List.take_succ_eq_append_getElem hlt, weights_append] at h1
        have h2 : weights [kids[k]] = weight kids[k] := by simp [weights]
        omega
      have hr1 : rows (kids.take (k + 1)) = rows (kids.take k) ++ row kids[k] := by
        rw [List.take_succ_eq_append_getElem hlt, rows_append]
        simp [rows]
      have Hr1 := Lib.hid hr1
      have HC := Lib.hid (HE.out kids[k] _ wr hls hwk)
      have Hown := Lib.hid hown
      have Ho := Lib.hid ho
      have Hbel := Lib.hid hbel
      have hlb : w.heap.size < wr.heap.size := (hown.lt w.heap.size rfl).2
      have Hlb := Lib.hid hlb
      clear hkid hls hg hwk hr1 hown ho hbel hlb
      generalize kids[k] = x at HC Hr1
      go_wp2_with fail
      refine HC.out.mono ?_
      rintro e w2 ⟨⟨us, G, rfl, hoG, hnG⟩, hb2⟩
      have hlen : us.length = 6 := by rw [hoG.1, row_length]
      have hown2 := own_below' Hown.out hb2
      have ho2 := Ho.out.below hb2
      have hthere := own_there hown2 (k * 6) us.toArray.size (by simp [hlen]; omega)
      have hone := hoG.one
      have hsize : (Tryz.prog.info? 27).map (·.size) = some us.toArray.size := by rw [List.size_toArray, hlen]; exact tree_size
      have Hfill := Lib.hid (own_fill hown2 hlt hlen ho2 hnd hne (hoG.lower (Nat.le_trans Hbel.out.size (Nat.le_refl _))) hnG (fun y hy hyG => by have h1 := (Ho.out.range y hy).2; have h2 := (hoG.range y hyG).1; omega) (fun y hy => by have h1 := (hoG.range y hy).1; have h2 := Hlb.out; omega) rfl)
      have Hbel2 := Lib.hid (Hbel.out.trans (hb2.mono Hbel.out.size))
      clear HC hoG hnG hb2 hown2 ho2 Ho hnd hne Hown Hbel q0 q1 q2 q3 q4 q5
      go_wp2_with (first | (refine Go.wpList_store_mid rfl 27 _ _ rfl w.heap.size (k * 6) us.toArray rfl rfl hthere hsize hone ?_) | fail)
      have hf := Hfill.out
      rw [← Hr1.out] at hf
      have hbel3 : Below w.heap.size w (w2.setCells w.heap.size (k * 6) us) := Hbel2.out.grown hf.2.2.2.2 Hbel2.out.size (fun b hb => by injection hb with hb; omega)
      have HF := Lib.hid hf
      have Hbel3 := Lib.hid hbel3
      clear hf hbel3 Hfill hthere hone hsize
      go_wp2_with fail
      go_roundw
      case rel => exact ⟨k + 1, _, _, by omega, by go_num, HF.out.1, HF.out.2.1, HF.out.2.2.1, HF.out.2.2.2.1, Hbel3.out⟩
      case measure => simp [intOf]; omega
    · obtain rfl : k = kids.length := by omega
      rw [List.take_of_length_le (Nat.le_refl _)] at ho
      have HR := Lib.hid (own_filled hown (by rw [rows_length]) ho hnd hne)
      have Hbel := Lib.hid hbel
      clear hown ho hbel
      go_wp2_with fail
      go_ret
      exact ⟨_, _, rfl, HR.out, Hbel.out⟩
theorem to_kids : ∀ f, ToKids f
  | 0 => to_kids_step (fun t vs w h => by
      obtain ⟨k, fl, n, s, ks, kids⟩ := t
      obtain ⟨_, _, _, _, _, _, _, _, _, _, _, _, _, _, f', hf, _⟩ := open_tree h
      omega)
  | f + 1 => to_kids_step (fun t vs w h hw => to_of (to_kids f) t vs w h hw)
/-- toTree of a tree that lies in memory. -/
theorem to_tree {f : Nat} (t : T) (vs : List Value) (w : World) (h : LiesS w f vs (row t)) (hw : weight t ≤ 1048576) :
    Calls Tryz.prog 17 #[.agg vs.toArray] w fun e w' => TreeOut w.heap.size (f + 3) t e w' ∧ Below w.heap.size w w' :=
  to_of (to_kids f) t vs w (h.deeper (Nat.le_succ f)) hw
end Go.Proofs.YtangdmjdjiddcaaGreatDoor.tree
