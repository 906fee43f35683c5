/- An owned list of labels is a row of some element type; an append onto such a row. -/
import Derived.Test.YtjcfaepklakpkaaGreatDoorFlatLab
import Derived.Test.YtjcfaepklakpkaaGreatDoorAppAny
namespace Go.Proofs.YtjcfaepklakpkaaGreatDoor.ty
open Go Go.RowKit
set_option linter.unusedVariables false

theorem rows_vals : ∀ (l : List Label) (m : Nat) (d : C), (l.flatMap Label.row)[m]? = some d → ∃ s, d = .str s ∧ (lvals l)[m]? = some (.string s)
  | [], m, d, h => by simp at h
  | x :: l, 0, d, h => by
    simp [Label.row] at h
    exact ⟨x.key, h.symm, by simp [lvals, Label.cells]⟩
  | x :: l, 1, d, h => by
    simp [Label.row] at h
    exact ⟨x.value, h.symm, by simp [lvals, Label.cells]⟩
  | x :: l, m + 2, d, h => by
    have h2 : (l.flatMap Label.row)[m]? = some d := by
      rw [List.flatMap_cons, List.getElem?_append_right (by simp [Label.row])] at h
      simpa [Label.row] using h
    obtain ⟨s, hs, hv⟩ := rows_vals l m d h2
    refine ⟨s, hs, ?_⟩
    unfold lvals at hv ⊢
    rw [List.flatMap_cons, List.getElem?_append_right (by simp [Label.cells])]
    simpa [Label.cells] using hv
theorem own_rowE {w : World} {B f : Nat} {v : Value} {l : List Label} {F : List Nat} (t0 : TypeId) (h : Own w B (f + 1) v (.sl 2 l.length (l.flatMap Label.row)) F) : ∃ e, w.ownsRow B e 2 v l.length (lvals l) := by
  obtain ⟨hl, ⟨rfl, hn, rfl⟩ | ⟨g, c, cur, e, Fs, rfl, h1, h2, h3, h4, hz, hF, h5, h6⟩⟩ := h
  · have : l = [] := List.eq_nil_of_length_eq_zero hn
    subst this
    exact ⟨t0, World.ownsRow_nil _ _ _ _⟩
  · refine ⟨e, lvals_length l, .inr ⟨g, c, cur, rfl, h3, h4, h1, h2, hz, ?_⟩⟩
    refine List.ext_getElem? fun m => ?_
    by_cases hm : m < l.length * 2
    · rw [List.getElem?_take_of_lt hm]
      have hd : m < (l.flatMap Label.row).length := by rw [hl]; exact hm
      obtain ⟨u, hu, ho⟩ := h6 m _ _ (List.getElem?_eq_getElem hd) (List.getElem?_eq_getElem (by omega))
      obtain ⟨s, hs, hv⟩ := rows_vals l m _ (List.getElem?_eq_getElem hd)
      rw [hs] at ho
      obtain ⟨rfl, _⟩ := ho.lies.str
      rw [hv, Array.getElem?_toList]
      exact hu
    · rw [List.getElem?_eq_none (by rw [List.length_take]; omega), List.getElem?_eq_none (by rw [lvals_length]; omega)]
end Go.Proofs.YtjcfaepklakpkaaGreatDoor.ty
namespace Go.Proofs.YtjcfaepklakpkaaGreatDoor
open Go Go.RowKit
/-- append onto a row of the call's own, whatever type its block bears. -/
theorem wpList_append_anyE {P : Program} {w : World} {ops : Array Oper} {rest : List Oper} {o : Oper} {a : Act} {Q : Exit → Act → World → Prop} (hgd : o.guard = none) (s x : Operand) (t : TypeId)
    (ho : o.op = .call { callee := .builtin .append, args := #[s, x], argTypes := #[t, t] })
    (base : Nat) (e e0 : TypeId) (i : TypeInfo) (z : Value) (size bytes : Nat) (ht : P.underlying t = some (.slice e)) (hi : P.info? e = some i) (hz : i.zero = some z)
    (hsize : i.size = size) (hby : i.bytes = bytes) (hzs : z.cells.size = size) (hsz : 0 < size)
    (v : Value) (n : Nat) (xs : List Value) (hs : a.eval s = v) (hown : w.ownsRow base e0 size v n xs)
    (g m c : Nat) (news : List Value) (hx : a.eval x = .slice (some ⟨g, 0, none⟩) m c) (hr : RdK w (some ⟨g, 0, none⟩) m size news) (hm : 0 < m) (h1 : ∀ u ∈ news, u.oneCell' = true)
    (h63 : n + m ≤ maxLen) (hbytes : (n + m) * bytes ≤ 140737488355328) (hbase : base ≤ w.heap.size)
    (h : ∀ v' w' e1, w'.ownsRow base e1 size v' (n + m) (xs ++ news) → w.grownBy w' v.ownBlock → (v'.ownBlock = v.ownBlock ∨ v'.ownBlock = some w.heap.size) → wpList P ops Q rest (a.put o.dst v') w') :
    wpList P ops Q (o :: rest) a w := by
  refine wpList_plain hgd fun K hK => ?_
  obtain ⟨g', o', hA, _, hc⟩ := hr.2 hm
  injection hA with hA
  injection hA with e1 e2
  subst e1 e2
  obtain ⟨v', w', e1, hr', h2, h3, h5⟩ := run_append_anyE (P := P) w base t o.type e e0 i z size bytes ht hi hz hsize hby hzs hsz v n xs hown ⟨g, 0, none⟩ m c news hr.1 (fun j u hu => by rw [Addr.add_lit]; exact hc j u hu) h1 h63 hbytes hbase
  unfold Oper.wp execOp
  simp only [ho, resolve, invoke, builtin, Sem.run_bind, Sem.run_pure, Result.andThen_ok, List.map_toArray, List.map_cons, List.map_nil, hs, hx, hr']
  exact hK _ _ (h v' w' e1 h2 h3 h5)
end Go.Proofs.YtjcfaepklakpkaaGreatDoor
