/- A tree's slices read as rows of values; a tree whose slices are rows lies in memory. Over any program but for the types' numbers. -/
import Derived.Test.YtfggpcahfpjgmaaDoorGWi
import Derived.Test.YtfggpcahfpjgmaaDoorGPut
namespace Go.Proofs.YtfggpcahfpjgmaaDoor.tree
open Go.ChangeShapes Go.WideShapes Go.ChangeAt Go.RowKit
set_option linter.unusedVariables false

theorem one_of_lie' {w : World} {f : Nat} {u : Value} {d : C} (h : Lies w f u d) : u.oneCell' = true := by
  match f, d, h with
  | f + 1, .int k n, h => obtain ⟨rfl, _⟩ := h; rfl
  | f + 1, .bool b, h => obtain rfl := (show u = .bool b from h); rfl
  | f + 1, .str s, h => obtain ⟨rfl, _⟩ := h; rfl
  | f + 1, .sl size n cells, h => obtain ⟨A, c, rfl, _⟩ := h; rfl
/-- The rows of a slice, as values. -/
theorem read_row {w : World} {f n c size : Nat} {A : Option Addr} {ds : List C} (h : Lies w (f + 1) (.slice A n c) (.sl size n ds)) : ∃ xs, RdN w size A n xs ∧ LiesS w f xs ds := by
  obtain ⟨A', c', e, h1, h2, h3, h4⟩ := h
  injection e with e1 e2 e3
  subst e1; subst e3
  by_cases hn : 0 < n
  · obtain ⟨g, o, rfl, hg, hc⟩ := h4 hn
    have hcell : ∀ m (hm : m < ds.length), ∃ u, w.cell? ⟨g, o + m, none⟩ = some u ∧ Lies w f u ds[m] := fun m hm => hc m _ (List.getElem?_eq_getElem hm)
    obtain ⟨xs, hxs⟩ : ∃ xs : List Value, xs = (List.range ds.length).map fun m => (w.cell? ⟨g, o + m, none⟩).getD undef := ⟨_, rfl⟩
    have hlen : xs.length = ds.length := by rw [hxs]; simp
    have hget : ∀ m u, xs[m]? = some u → m < ds.length ∧ w.cell? ⟨g, o + m, none⟩ = some u := fun m u hu => by
      have hm := (List.getElem?_eq_some_iff.1 hu).1
      rw [hlen] at hm
      refine ⟨hm, ?_⟩
      obtain ⟨v, hv, _⟩ := hcell m hm
      rw [hxs, List.getElem?_map, List.getElem?_range hm] at hu
      simp only [Option.map_some, hv, Option.getD_some, Option.some.injEq] at hu
      rw [hv, hu]
    refine ⟨xs, ⟨by rw [hlen, h3], fun u hu => ?_, fun _ => ⟨g, o, rfl, hg, fun j u hu => (hget j u hu).2⟩⟩, hlen, fun m u d hu hd => ?_⟩
    · obtain ⟨m, hm, rfl⟩ := List.getElem_of_mem hu
      obtain ⟨h5, h6⟩ := hget m _ (List.getElem?_eq_getElem hm)
      obtain ⟨v, hv, hl⟩ := hcell m h5
      rw [h6] at hv
      injection hv with hv
      subst hv
      exact one_of_lie' hl
    · obtain ⟨h5, h6⟩ := hget m u hu
      obtain ⟨v, hv, hl⟩ := hcell m h5
      rw [h6] at hv
      injection hv with hv
      subst hv
      rw [List.getElem?_eq_getElem h5] at hd
      injection hd with hd
      subst hd
      exact hl
  · have h0 : n = 0 := by omega
    subst h0
    have : ds = [] := List.eq_nil_of_length_eq_zero (by omega)
    subst this
    exact ⟨[], ⟨(by simp : ([] : List Value).length = 0 * size), fun u hu => absurd hu (by simp), fun h => absurd h hn⟩, LiesS.nil⟩
theorem liesS_app {w : World} {f : Nat} : ∀ {vs : List Value} {ds : List C} {us : List Value} {es : List C}, LiesS w f vs ds → LiesS w f us es → LiesS w f (vs ++ us) (ds ++ es)
  | [], ds, us, es, h, k => by
    have : ds = [] := List.eq_nil_of_length_eq_zero h.1.symm
    subst this
    exact k
  | v :: vs, [], us, es, h, k => by have := h.1; simp at this
  | v :: vs, d :: ds, us, es, h, k => by
    obtain ⟨v', vs', e, h1, h2⟩ := h.uncons
    injection e with e1 e2
    subst e1; subst e2
    exact LiesS.cons h1 (liesS_app h2 k)
theorem LiesS.take {w : World} {f : Nat} {vs : List Value} {ds : List C} (h : LiesS w f vs ds) (i : Nat) : LiesS w f (vs.take i) (ds.take i) := by
  refine ⟨by rw [List.length_take, List.length_take, h.1], fun m u d hu hd => ?_⟩
  have hm := (List.getElem?_eq_some_iff.1 hu).1
  rw [List.length_take] at hm
  rw [List.getElem?_take, if_pos (by omega)] at hu hd
  exact h.2 m u d hu hd
theorem LiesS.drop {w : World} {f : Nat} {vs : List Value} {ds : List C} (h : LiesS w f vs ds) (i : Nat) : LiesS w f (vs.drop i) (ds.drop i) := by
  refine ⟨by rw [List.length_drop, List.length_drop, h.1], fun m u d hu hd => ?_⟩
  rw [List.getElem?_drop] at hu hd
  exact h.2 _ u d hu hd
theorem rows_take : ∀ (l : List T) (i : Nat), (rows l).take (i * 6) = rows (l.take i)
  | [], i => by simp [rows]
  | t :: r, 0 => by simp [rows]
  | t :: r, i + 1 => by
    have e : (i + 1) * 6 = (row t).length + i * 6 := by rw [row_length]; omega
    rw [rows, e, List.take_length_add_append, rows_take r i, List.take_succ_cons, rows]
theorem rows_drop : ∀ (l : List T) (i : Nat), (rows l).drop (i * 6) = rows (l.drop i)
  | [], i => by simp [rows]
  | t :: r, 0 => by simp [rows]
  | t :: r, i + 1 => by
    have e : (i + 1) * 6 = (row t).length + i * 6 := by rw [row_length]; omega
    rw [rows, e, List.drop_length_add_append, rows_drop r i, List.drop_succ_cons]
/-- An owned row of values that lie so is a slice that lies so. -/
theorem lies_of_own {w : World} {B f n size : Nat} {e : TypeId} {v : Value} {xs : List Value} {ds : List C} (h : w.ownsRow B e size v n xs) (hx : LiesS w f xs ds) : Lies w (f + 1) v (.sl size n ds) := by
  have hl : ds.length = n * size := by rw [← hx.1, h.1]
  rcases h.2 with ⟨rfl, rfl⟩ | ⟨g, cap, cur, rfl, _, hg, h1, h2, h3, h4⟩
  · exact ⟨none, 0, rfl, Nat.le_refl _, by simp [maxLen], hl, fun h0 => absurd h0 (by omega)⟩
  · refine ⟨_, _, rfl, h1, h2, hl, fun _ => ⟨g, 0, rfl, heap_lt hg, fun m d hd => ?_⟩⟩
    have hm := (List.getElem?_eq_some_iff.1 hd).1
    have hx2 : m < xs.length := by rw [hx.1]; exact hm
    refine ⟨xs[m], ?_, hx.2 m _ d (List.getElem?_eq_getElem hx2) hd⟩
    rw [Nat.zero_add, cell_of_row w g m _ _ _ hg]
    have e2 : (cur.toList.take (n * size))[m]? = xs[m]? := by rw [h4]
    rw [List.getElem?_take, if_pos (by omega), List.getElem?_eq_getElem hx2] at e2
    simpa using e2
theorem lies_strs {w : World} {f : Nat} (ks : List ByteArray) (h : ∀ k ∈ ks, k.size ≤ maxLen) : LiesS w (f + 1) (scells ks) (skeys ks) := by
  refine ⟨by simp [scells, skeys], fun m u d hu hd => ?_⟩
  have hm := (List.getElem?_eq_some_iff.1 hu).1
  have hm2 : m < ks.length := by simpa [scells] using hm
  simp only [scells, skeys, List.getElem?_map, List.getElem?_eq_getElem hm2, Option.map_some, Option.some.injEq] at hu hd
  subst hu; subst hd
  exact ⟨rfl, h _ (List.getElem_mem hm2)⟩
end Go.Proofs.YtfggpcahfpjgmaaDoor.tree
