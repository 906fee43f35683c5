/- append(append([]Need{}, list...), n): the list may lie anywhere. -/
import Derived.Test.YtjcfaepklakpkaaDoorSortNS
namespace Go.Proofs.YtjcfaepklakpkaaDoor.need
open Go.ChangeShapes Go.WideShapes Go.ChangeAt Go.RowKit ty lab dedup
set_option linter.unusedVariables false

/-- The raw cells of a slice of requirements. -/
theorem raw_list {w : World} {f c : Nat} {A : Option Addr} {l : List Need} (h : Lies w f (.slice A l.length c) (.sl 3 l.length (l.flatMap Need.row))) : ∃ f' xs, RdK w A l.length 3 xs ∧ LiesS w f' xs (l.flatMap Need.row) := by
  obtain ⟨A', c', hA, h1, h2, hl, f', rfl, hc⟩ := h.sl
  injection hA with a1 _ a3
  subst a1 a3
  by_cases h0 : l.length = 0
  · have e : l = [] := List.eq_nil_of_length_eq_zero h0
    subst e
    exact ⟨f', [], ⟨rfl, fun h => absurd h (by simp)⟩, LiesS.nil⟩
  obtain ⟨g, o, rfl, hg, hcc⟩ := hc (by omega)
  have hone : ∀ i, i < (l.flatMap Need.row).length → ∃ u : Value, w.cell? ⟨g, o + i, none⟩ = some u ∧ ∃ d, (l.flatMap Need.row)[i]? = some d ∧ Lies w f' u d := fun i hi => by
    obtain ⟨u, hu, hl⟩ := hcc i _ (List.getElem?_eq_getElem hi)
    exact ⟨u, hu, _, List.getElem?_eq_getElem hi, hl⟩
  obtain ⟨q, hq⟩ := Go.Deep.choose_lt hone
  refine ⟨f', (List.range (l.flatMap Need.row).length).map q, ⟨by rw [List.length_map, List.length_range, hl], fun _ => ⟨g, o, rfl, hg, fun j u hu => ?_⟩⟩, by simp, fun m u d hu hd => ?_⟩
  · have hi : j < (l.flatMap Need.row).length := by have := (List.getElem?_eq_some_iff.1 hu).1; simpa using this
    simp only [List.getElem?_map, List.getElem?_range hi, Option.map_some, Option.some.injEq] at hu
    rw [← hu]
    exact (hq j hi).1
  · have hi : m < (l.flatMap Need.row).length := (List.getElem?_eq_some_iff.1 hd).1
    simp only [List.getElem?_map, List.getElem?_range hi, Option.map_some, Option.some.injEq] at hu
    rw [← hu]
    obtain ⟨_, d', e, hl⟩ := hq m hi
    rw [e] at hd
    injection hd with hd
    exact hd ▸ hl
theorem lies_ones {w : World} {f : Nat} {xs : List Value} {ds : List C} (h : LiesS w f xs ds) : ∀ u ∈ xs, u.oneCell' = true := fun u hu => by
  obtain ⟨m, hm, rfl⟩ := List.getElem_of_mem hu
  have hd : m < ds.length := by rw [← h.1]; exact hm
  have := h.2 m _ _ (List.getElem?_eq_getElem hm) (List.getElem?_eq_getElem hd)
  revert this
  generalize ds[m] = d
  generalize xs[m] = v
  intro h
  cases f with
  | zero => exact absurd h (by simp [Lies])
  | succ f =>
    cases d with
    | int k n => obtain ⟨rfl, _⟩ := h; rfl
    | bool b => obtain rfl := h; rfl
    | str s => obtain ⟨rfl, _⟩ := h; rfl
    | sl k n cs => obtain ⟨A, c, rfl, _⟩ := h; rfl
/-- A slice of the call's own whose elements lie anywhere. -/
theorem lies_row {w : World} {B f n : Nat} {e : TypeId} {v : Value} {xs : List Value} {cells : List C} (h : w.ownsRow B e 3 v n xs) (hn : 0 < n) (hc : LiesS w f xs cells) : Lies w (f + 1) v (.sl 3 n cells) := by
  have h' := h
  obtain ⟨h1, h2⟩ := h
  rcases h2 with ⟨_, h2⟩ | ⟨g, cap, cur, rfl, _, hg, hn2, hm, _, ht⟩
  · omega
  · refine ⟨some ⟨g, 0, none⟩, cap, rfl, hn2, hm, by rw [← hc.1, h1], fun _ => ⟨g, 0, rfl, heap_lt hg, fun m d hd => ?_⟩⟩
    have hml : m < xs.length := by rw [hc.1]; exact (List.getElem?_eq_some_iff.1 hd).1
    have hu := List.getElem?_eq_getElem hml
    have := h'.cells (g := g) rfl m _ hu
    rw [Addr.add_lit] at this
    exact ⟨_, this, hc.2 m _ d hu hd⟩
theorem liesS_append {w : World} {f : Nat} {xs ys : List Value} {cs ds : List C} (h1 : LiesS w f xs cs) (h2 : LiesS w f ys ds) : LiesS w f (xs ++ ys) (cs ++ ds) := by
  refine ⟨by simp [h1.1, h2.1], fun m u d hu hd => ?_⟩
  by_cases hm : m < xs.length
  · rw [List.getElem?_append_left hm] at hu
    rw [List.getElem?_append_left (by rw [← h1.1]; exact hm)] at hd
    exact h1.2 m u d hu hd
  · rw [List.getElem?_append_right (by omega)] at hu
    rw [List.getElem?_append_right (by rw [← h1.1]; omega), ← h1.1] at hd
    exact h2.2 _ u d hu hd
/-- Onto a new slice that is empty. -/
theorem more_first {ops : Array Oper} {o : Oper} {a : Act} {X wd : World} {K : Act → World → Prop} {Q : Exit → Act → World → Prop} {E : Prop} (s t : Tmp)
    (hg : o.guard = none) (hop : o.op = Op.call { callee := Callee.builtin Builtin.append, args := #[.tmp s, .tmp t], argTypes := #[24, 24] })
    (b : Nat) (hs : a.eval (.tmp s) = .slice (some ⟨b, 0, none⟩) 0 0) (hX : Below wd.heap.size wd X) (hown : X.ownsRow wd.heap.size 30 3 (.slice (some ⟨b, 0, none⟩) 0 0) 0 [])
    (A : Option Addr) (k c : Nat) (news : List Value) (hx : a.eval (.tmp t) = .slice A k c) (hr : RdK wd A k 3 news) (h1 : ∀ u ∈ news, u.oneCell' = true) (hk : k ≤ 64)
    (hK : ∀ v' w', w'.ownsRow wd.heap.size 30 3 v' k news → Below wd.heap.size wd w' → X.heap.size ≤ w'.heap.size → (∀ q, q < X.heap.size → q ≠ b → w'.heap[q]? = X.heap[q]?) → K (a.put o.dst v') w') :
    if Region.wanted o (yielded ops a.tmps) = true then Oper.wp Tryd.prog o a X K Q else E := by
  obtain ⟨i0, hi, hz0, hz1, hz2⟩ := info_parts TrydinfoNeed
  refine step_append_rdk hg (.tmp s) (.tmp t) 24 hop wd.heap.size 30 i0 _ 3 48 Tryd.underlying24 hi hz0 hz1 hz2 rfl (by decide) _ 0 [] hs hown A k c news hx (hr.below hX) h1 (by unfold maxLen; omega) (by omega) hX.size ?_
  intro v' w' h1 h2 h3
  rw [Nat.zero_add, List.nil_append] at h1
  refine hK v' w' h1 (hX.grown h2 hX.size (fun q hq => (hown.lt q hq).1)) h2.size (fun q hq hb => h2.block q hq (fun e => hb (by simp [Value.ownBlock] at e; omega)))
/-- One row more. -/
theorem more_second {ops : Array Oper} {o : Oper} {a : Act} {Y wd : World} {K : Act → World → Prop} {Q : Exit → Act → World → Prop} {E : Prop} (s t : Tmp)
    (hg : o.guard = none) (hop : o.op = Op.call { callee := Callee.builtin Builtin.append, args := #[.tmp s, .tmp t], argTypes := #[24, 24] })
    (v : Value) (k : Nat) (news us : List Value) (hs : a.eval (.tmp s) = v) (hY : Below wd.heap.size wd Y) (hown : Y.ownsRow wd.heap.size 30 3 v k news)
    (A : Option Addr) (hx : a.eval (.tmp t) = .slice A 1 1) (hr : RdK Y A 1 3 us) (h1 : ∀ u ∈ us, u.oneCell' = true) (hk : k ≤ 64)
    (hK : ∀ v' w', w'.ownsRow wd.heap.size 30 3 v' (k + 1) (news ++ us) → Below wd.heap.size wd w' → K (a.put o.dst v') w') :
    if Region.wanted o (yielded ops a.tmps) = true then Oper.wp Tryd.prog o a Y K Q else E := by
  obtain ⟨i0, hi, hz0, hz1, hz2⟩ := info_parts TrydinfoNeed
  refine step_append_rdk hg (.tmp s) (.tmp t) 24 hop wd.heap.size 30 i0 _ 3 48 Tryd.underlying24 hi hz0 hz1 hz2 rfl (by decide) v k _ hs hown A 1 1 us hx hr h1 (by unfold maxLen; omega) (by omega) hY.size ?_
  intro v' w' h1 h2 h3
  exact hK v' w' h1 (hY.grown h2 hY.size (fun q hq => (hown.lt q hq).1))
/-- The longer list. -/
def MoreAt (w : World) (l : List Need) (v : Value) (w' : World) : Prop := ∃ f A c, v = .slice A l.length c ∧ Lies w' f v (.sl 3 l.length (l.flatMap Need.row)) ∧ Below w.heap.size w w'
theorem more_at {w w' : World} {l : List Need} {x : Need} {f f2 : Nat} {xs us : List Value} {v : Value} (h1 : LiesS w f xs (l.flatMap Need.row)) (h2 : LiesS w f2 us x.row) (hown : w'.ownsRow w.heap.size 30 3 v (l.length + 1) (xs ++ us)) (hb : Below w.heap.size w w') :
    MoreAt w (l ++ [x]) v w' := by
  have e1 : (l ++ [x]).length = l.length + 1 := by simp
  have e2 : (l ++ [x]).flatMap Need.row = l.flatMap Need.row ++ x.row := by simp
  have hL := lies_row hown (by omega) (liesS_append ((h1.below hb).deeper (Nat.le_max_left f f2)) ((h2.below hb).deeper (Nat.le_max_right f f2)))
  obtain ⟨g, c, rfl⟩ := ownV_pos hown (by omega)
  exact ⟨_, some ⟨g, 0, none⟩, c, by rw [e1], by rw [e1, e2]; exact hL, hb⟩
end Go.Proofs.YtjcfaepklakpkaaDoor.need
