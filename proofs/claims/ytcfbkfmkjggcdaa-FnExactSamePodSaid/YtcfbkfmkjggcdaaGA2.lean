/- Merged: Flat ClearK FlT LabM LabQ RowE SzLabel SzLabelS NsM St3 ToLabel. -/
import Derived.Test.YtcfbkfmkjggcdaaGA1
import Derived.Laws.IdiomCopy
import Derived.Laws.OwnMore
import Derived.Tactics
import Derived.Test.YtcfbkfmkjggcdaaGA0
import Derived.Test.YtcfbkfmkjggcdaaCell
import Derived.Test.YtcfbkfmkjggcdaaRows
import Derived.ProofKit
import Derived.OpenShut
import Derived.Deep.WholeRow
namespace Go.Proofs.Ytcfbkfmkjggcdaa
open Go Go.RowKit
set_option linter.unusedVariables false

/-- A slice of m elements of k cells reads so. -/
def RdK (w : World) (A : Option Addr) (m k : Nat) (news : List Value) : Prop :=
  news.length = m * k ∧ (0 < m → ∃ g o, A = some ⟨g, o, none⟩ ∧ g < w.heap.size ∧ ∀ j u, news[j]? = some u → w.cell? ⟨g, o + j, none⟩ = some u)
theorem RdK.below {w w' : World} {A : Option Addr} {m k : Nat} {news : List Value} (h : RdK w A m k news) (hb : Below w.heap.size w w') : RdK w' A m k news := by
  refine ⟨h.1, fun hm => ?_⟩
  obtain ⟨g, o, hA, hg, hc⟩ := h.2 hm
  exact ⟨g, o, hA, Nat.lt_of_lt_of_le hg hb.size, fun j u hu => (World.cell?_of_block (hb.block g hg)).trans (hc j u hu)⟩
theorem run_append_rdk {P : Program} {w : World} (base : Nat) (t ty e : TypeId) (i : TypeInfo) (z : Value) (size bytes : Nat) (ht : P.underlying t = some (.slice e)) (hi : P.info? e = some i) (hz : i.zero = some z)
    (hsize : i.size = size) (hby : i.bytes = bytes) (hzs : z.cells.size = size) (hsz : 0 < size) (v : Value) (n : Nat) (xs : List Value) (hown : w.ownsRow base e size v n xs)
    (A : Option Addr) (m c : Nat) (news : List Value) (hr : RdK w A m size news) (h1 : ∀ u ∈ news, u.oneCell' = true)
    (h63 : n + m ≤ maxLen) (hbytes : (n + m) * bytes ≤ 140737488355328) (hbase : base ≤ w.heap.size) :
    ∃ v' w', (Builtin.append_ #[t, t] ty #[v, .slice A m c]).run P w = .ok v' w' ∧ w'.ownsRow base e size v' (n + m) (xs ++ news) ∧ w.grownBy w' v.ownBlock ∧ (v'.ownBlock = v.ownBlock ∨ v'.ownBlock = some w.heap.size) := by
  rcases Nat.eq_zero_or_pos m with hm | hm
  · subst hm
    have hn : news = [] := List.eq_nil_of_length_eq_zero (by rw [hr.1]; simp)
    subst hn
    cases A with
    | some ad =>
      obtain ⟨v', w', r0, r1, r2, _, r3⟩ := run_append_own_at (P := P) w base t ty e i z size bytes ht hi hz hsize hby hzs hsz v n xs hown ad 0 c [] (by simp) (fun j u hu => by simp at hu) h1 h63 hbytes hbase
      exact ⟨v', w', r0, r1, r2, r3⟩
    | none =>
      refine ⟨v, w, ?_, by simpa using hown, World.grownBy.refl _ _, .inl rfl⟩
      subst hsize
      rcases hown.2 with ⟨rfl, rfl⟩ | ⟨g, cap, cur, rfl, _, _, hnc, _⟩
      · simp [Builtin.append_, run_underlying ht, sizeOf, typeInfo, hi, Builtin.lenOf, Builtin.firstCells]
      · simp [Builtin.append_, run_underlying ht, sizeOf, typeInfo, hi, Builtin.lenOf, Builtin.firstCells, hnc, storeCells]
  · obtain ⟨g, o, rfl, hg, hc⟩ := hr.2 hm
    obtain ⟨v', w', r0, r1, r2, _, r3⟩ := run_append_own_at (P := P) w base t ty e i z size bytes ht hi hz hsize hby hzs hsz v n xs hown ⟨g, o, none⟩ m c news hr.1 (fun j u hu => by rw [Addr.add_lit]; exact hc j u hu) h1 h63 hbytes hbase
    exact ⟨v', w', r0, r1, r2, r3⟩
/-- append(v, x...) of a slice x that reads, nil or not. -/
theorem wpList_append_rdk {P : Program} {w : World} {ops : Array Oper} {rest : List Oper} {o : Oper} {a : Act} {Q : Exit → Act → World → Prop} (hgd : o.guard = none) (s x : Operand) (t : TypeId)
    (ho : o.op = .call { callee := .builtin .append, args := #[s, x], argTypes := #[t, t] })
    (base : Nat) (e : TypeId) (i : TypeInfo) (z : Value) (size bytes : Nat) (ht : P.underlying t = some (.slice e)) (hi : P.info? e = some i) (hz : i.zero = some z)
    (hsize : i.size = size) (hby : i.bytes = bytes) (hzs : z.cells.size = size) (hsz : 0 < size)
    (v : Value) (n : Nat) (xs : List Value) (hs : a.eval s = v) (hown : w.ownsRow base e size v n xs)
    (A : Option Addr) (m c : Nat) (news : List Value) (hx : a.eval x = .slice A m c) (hr : RdK w A m size news) (h1 : ∀ u ∈ news, u.oneCell' = true)
    (h63 : n + m ≤ maxLen) (hbytes : (n + m) * bytes ≤ 140737488355328) (hbase : base ≤ w.heap.size)
    (h : ∀ v' w', w'.ownsRow base e size v' (n + m) (xs ++ news) → w.grownBy w' v.ownBlock → (v'.ownBlock = v.ownBlock ∨ v'.ownBlock = some w.heap.size) → wpList P ops Q rest (a.put o.dst v') w') :
    wpList P ops Q (o :: rest) a w := by
  refine wpList_plain hgd fun K hK => ?_
  obtain ⟨v', w', hr', h2, h3, h5⟩ := run_append_rdk (P := P) base t o.type e i z size bytes ht hi hz hsize hby hzs hsz v n xs hown A m c news hr h1 h63 hbytes hbase
  unfold Oper.wp execOp
  simp only [ho, resolve, invoke, builtin, Sem.run_bind, Sem.run_pure, Result.andThen_ok, List.map_toArray, List.map_cons, List.map_nil, hs, hx, hr']
  exact hK _ _ (h v' w' h2 h3 h5)
/-- As one step of a region that draws its order. -/
theorem step_append_rdk {P : Program} {ops : Array Oper} {o : Oper} {a : Act} {w : World} {K : Act → World → Prop} {Q : Exit → Act → World → Prop} {E : Prop}
    (hg : o.guard = none) (s x : Operand) (t : TypeId) (hop : o.op = Op.call { callee := Callee.builtin Builtin.append, args := #[s, x], argTypes := #[t, t] })
    (base : Nat) (e : TypeId) (i : TypeInfo) (z : Value) (size bytes : Nat) (ht : P.underlying t = some (.slice e)) (hi : P.info? e = some i) (hz : i.zero = some z)
    (hsize : i.size = size) (hby : i.bytes = bytes) (hzs : z.cells.size = size) (hsz : 0 < size)
    (v : Value) (n : Nat) (xs : List Value) (hs : a.eval s = v) (hown : w.ownsRow base e size v n xs)
    (A : Option Addr) (m c : Nat) (news : List Value) (hx : a.eval x = .slice A m c) (hr : RdK w A m size news) (h1 : ∀ u ∈ news, u.oneCell' = true)
    (h63 : n + m ≤ maxLen) (hbytes : (n + m) * bytes ≤ 140737488355328) (hbase : base ≤ w.heap.size)
    (hK : ∀ v' w', w'.ownsRow base e size v' (n + m) (xs ++ news) → w.grownBy w' v.ownBlock → (v'.ownBlock = v.ownBlock ∨ v'.ownBlock = some w.heap.size) → K (a.put o.dst v') w') :
    if Region.wanted o (yielded ops a.tmps) = true then Oper.wp P o a w K Q else E := by
  have hw : Region.wanted o (yielded ops a.tmps) = true := by simp [Region.wanted, hg]
  rw [if_pos hw]
  obtain ⟨v', w', hrun, r1, r2, r3⟩ := run_append_rdk (P := P) base t o.type e i z size bytes ht hi hz hsize hby hzs hsz v n xs hown A m c news hr h1 h63 hbytes hbase
  unfold Oper.wp
  simp [execOp, hop, resolve, invoke, builtin, hs, hx, hrun, Result.andThen]
  exact hK v' w' r1 r2 r3
/-- The first and the last elements of an own row. -/
theorem own_rdk {w : World} {B : Nat} {e : TypeId} {k g n c : Nat} {xs : List Value} (h : w.ownsRow B e k (.slice (some ⟨g, 0, none⟩) n c) n xs) (p q m : Nat) (hq : q = p * k) (hm : p + m ≤ n) :
    RdK w (some ⟨g, q, none⟩) m k ((xs.drop (p * k)).take (m * k)) := by
  subst hq
  have hl := h.1
  refine ⟨?_, fun _ => ⟨g, p * k, rfl, (h.lt g rfl).2, fun j u hu => ?_⟩⟩
  · rw [List.length_take, List.length_drop, hl, ← Nat.sub_mul]
    exact Nat.min_eq_left (Nat.mul_le_mul_right _ (by omega))
  · have hj : j < m * k := by
      have := (List.getElem?_eq_some_iff.1 hu).1
      rw [List.length_take] at this
      omega
    rw [List.getElem?_take_of_lt hj, List.getElem?_drop] at hu
    have := h.cells (g := g) rfl (p * k + j) u hu
    rwa [Addr.add_lit, Nat.zero_add] at this
theorem RdK.nil (w : World) (A : Option Addr) (k : Nat) : RdK w A 0 k [] := ⟨by simp, fun h => absurd h (by omega)⟩
theorem own_lower' {w : World} {B B' : Nat} {e : TypeId} {size n : Nat} {v : Value} {xs : List Value} (h : w.ownsRow B e size v n xs) (hB : B' ≤ B) : w.ownsRow B' e size v n xs :=
  ⟨h.1, h.2.imp id (fun ⟨g, cap, cur, h1, h2, h3⟩ => ⟨g, cap, cur, h1, Nat.le_trans hB h2, h3⟩)⟩
theorem own_some {w : World} {B : Nat} {e : TypeId} {size n x : Nat} {v : Value} {xs : List Value} (h : w.ownsRow B e size v n xs) (hv : v.ownBlock = some x) : ∃ c, v = .slice (some ⟨x, 0, none⟩) n c ∧ n ≤ c ∧ c ≤ maxLen ∧ B ≤ x := by
  rcases h.2 with ⟨rfl, _⟩ | ⟨g, cap, cur, rfl, hb, _, h1, h2, _⟩
  · cases hv
  · injection hv with hv
    subst hv
    exact ⟨cap, rfl, h1, h2, hb⟩
end Go.Proofs.Ytcfbkfmkjggcdaa
namespace Go.Proofs.Ytcfbkfmkjggcdaa
open Go Go.RowKit
set_option linter.unusedVariables false

theorem zeroCells_len (z : Array Value) (n : Nat) : (Builtin.zeroCells z n).toList.length = n * z.size := by simp [Builtin.zeroCells]
theorem run_clear_k {P : Program} (w : World) (t e ty : TypeId) (z : Value) (ht : P.underlying t = some (.slice e)) (hv : ∀ w, (zeroValue e).run P w = .ok z w) (h1 : ∀ (i : Nat) (h : i < z.cells.size), (z.cells[i]).oneCell' = true) (b o n c : Nat) (hn : 0 < n) (hz : 0 < z.cells.size)
    (hc : ∀ j, j < n * z.cells.size → (w.cell? ⟨b, o + j, none⟩).isSome = true) (hf : ∀ j, j < n * z.cells.size → w.frozen? ⟨b, o + j, none⟩ = false) :
    (Builtin.clear_ #[t] ty #[.slice (some ⟨b, o, none⟩) n c]).run P w = .ok (.tuple #[]) (w.setCells b o (Builtin.zeroCells z.cells n).toList) := by
  have hst := run_storeCells_cells (P := P) b o (Builtin.zeroCells z.cells n).toList 0 w (fun j hj => by rw [zeroCells_len] at hj; simpa using hc j hj) (fun j hj => by rw [zeroCells_len] at hj; simpa using hf j hj) (by
    intro v hv'
    rw [Array.mem_toList_iff] at hv'
    unfold Builtin.zeroCells at hv'
    rw [Array.mem_map] at hv'
    obtain ⟨i, hi, rfl⟩ := hv'
    rw [getElem!_pos z.cells (i % z.cells.size) (Nat.mod_lt _ hz)]
    exact h1 _ _)
  simp only [Nat.add_zero] at hst
  obtain ⟨m, rfl⟩ : ∃ m, n = m + 1 := ⟨n - 1, by omega⟩
  simp [Builtin.clear_, run_underlying ht, hv, hst]
/-- The same block, cut short. -/
theorem own_prefix {w : World} {B : Nat} {e : TypeId} {size g n m c : Nat} {xs : List Value} (h : w.ownsRow B e size (.slice (some ⟨g, 0, none⟩) n c) n xs) (hm : m ≤ n) : w.ownsRow B e size (.slice (some ⟨g, 0, none⟩) m c) m (xs.take (m * size)) := by
  have hl := h.1
  have hle : m * size ≤ n * size := Nat.mul_le_mul_right _ hm
  rcases h.2 with ⟨h0, _⟩ | ⟨g', cap, cur, hv, h1, h2, h3, h4, h5, h6⟩
  · cases h0
  · injection hv with hv _ hc
    injection hv with hv
    injection hv with hv
    subst hv hc
    refine ⟨by rw [List.length_take]; omega, .inr ⟨g, c, cur, rfl, h1, h2, by omega, h4, h5, ?_⟩⟩
    rw [← h6, List.take_take, Nat.min_eq_left hle]
theorem setR_low : ∀ (vs xs : List Value) (o k : Nat), k ≤ o → (setR xs o vs).take k = xs.take k
  | [], xs, o, k, h => rfl
  | v :: r, xs, o, k, h => by rw [setR, setR_low r _ _ _ (by omega), List.take_set_of_le (by omega)]
end Go.Proofs.Ytcfbkfmkjggcdaa
namespace Go.Proofs.Ytcfbkfmkjggcdaa.flt
open Go Go.RowKit
set_option linter.unusedVariables false
variable {α : Type} {enc : α → List Value} {k : Nat}

theorem take_flat (hk : ∀ x, (enc x).length = k) (l : List α) (j : Nat) : (l.flatMap enc).take (j * k) = (l.take j).flatMap enc := by
  by_cases h : j ≤ l.length
  · have e : l.flatMap enc = (l.take j).flatMap enc ++ (l.drop j).flatMap enc := by rw [← List.flatMap_append, List.take_append_drop]
    have e2 : j * k = ((l.take j).flatMap enc).length := by rw [flat_length' hk, List.length_take, Nat.min_eq_left h]
    rw [e, e2, List.take_left]
  · rw [List.take_of_length_le (by rw [flat_length' hk]; exact Nat.mul_le_mul_right _ (by omega)), List.take_of_length_le (by omega)]
theorem drop_flat (hk : ∀ x, (enc x).length = k) (l : List α) (j : Nat) : (l.flatMap enc).drop (j * k) = (l.drop j).flatMap enc := by
  by_cases h : j ≤ l.length
  · have e : l.flatMap enc = (l.take j).flatMap enc ++ (l.drop j).flatMap enc := by rw [← List.flatMap_append, List.take_append_drop]
    have e2 : j * k = ((l.take j).flatMap enc).length := by rw [flat_length' hk, List.length_take, Nat.min_eq_left h]
    rw [e, e2, List.drop_left]
  · rw [List.drop_of_length_le (by rw [flat_length' hk]; exact Nat.mul_le_mul_right _ (by omega)), List.drop_of_length_le (by omega)]; rfl
theorem setR_eq : ∀ (vs xs : List Value) (o : Nat), o + vs.length ≤ xs.length → setR xs o vs = xs.take o ++ vs ++ xs.drop (o + vs.length)
  | [], xs, o, _ => by simp [setR]
  | v :: r, xs, o, h => by
    simp only [List.length_cons] at h
    rw [setR, setR_eq r _ _ (by simp; omega), List.take_succ_eq_append_getElem (by simp; omega), List.take_set_of_le (Nat.le_refl _), List.getElem_set_self, List.drop_set_of_lt (by omega)]
    simp only [List.length_cons, List.append_assoc, List.cons_append, List.nil_append]
    rw [show o + 1 + r.length = o + (r.length + 1) by omega]
theorem set_flat (hk : ∀ x, (enc x).length = k) (l : List α) (j : Nat) (x : α) (h : j < l.length) : setR (l.flatMap enc) (j * k) (enc x) = (l.set j x).flatMap enc := by
  have h2 : j * k + k ≤ l.length * k := by rw [← Nat.succ_mul]; exact Nat.mul_le_mul_right _ h
  rw [setR_eq _ _ _ (by rw [flat_length' hk, hk]; exact h2), hk, take_flat hk, show j * k + k = (j + 1) * k from (Nat.succ_mul j k).symm, drop_flat hk, List.set_eq_take_append_cons_drop, if_pos h, List.flatMap_append, List.flatMap_cons, List.append_assoc]
/-- One cell of a slice of the call's own. -/
theorem cell_of {w : World} {B g c n : Nat} {e : TypeId} {l : List α} (hk : ∀ x, (enc x).length = k) (h : w.ownsRow B e k (.slice (some ⟨g, 0, none⟩) n c) n (l.flatMap enc)) {j i : Nat} (hj : j < l.length) (hi : i < k) {u : Value} (hu : (enc l[j])[i]? = some u) : w.cell? ⟨g, j * k + i, none⟩ = some u := by
  have h1 := h.cells (g := g) rfl (j * k + i) u (by rw [flat_get' hk l j i _ (List.getElem?_eq_getElem hj) hi]; exact hu)
  rwa [Addr.add_lit, Nat.zero_add] at h1
theorem ones_flat (h1 : ∀ x, ∀ u ∈ enc x, u.oneCell' = true) (l : List α) : ∀ u ∈ l.flatMap enc, u.oneCell' = true := fun u hu => by
  obtain ⟨x, _, hx⟩ := List.mem_flatMap.1 hu
  exact h1 x u hx
/-- The elements of a slice that came in. -/
theorem rdk_of_els {row : α → List C} {Wf : α → Prop} (hk : ∀ x, (enc x).length = k) (k0 : 0 < k) (hop : ∀ (w : World) (f : Nat) (us : List Value) (x : α), LiesS w f us (row x) → us = enc x ∧ Wf x) {w : World} {f : Nat} {A : Option Addr} {l : List α} (h : ElsAt row w f A l k) : RdK w A l.length k (l.flatMap enc) ∧ ∀ x ∈ l, Wf x := by
  refine ⟨⟨flat_length' hk l, fun hm => ?_⟩, fun x hx => ?_⟩
  · obtain ⟨g, o, hA, hg, hc⟩ := h hm
    refine ⟨g, o, hA, hg, fun j u hu => ?_⟩
    have hj : j < l.length * k := by
      have := (List.getElem?_eq_some_iff.1 hu).1
      rwa [flat_length' hk] at this
    have e : j / k * k + j % k = j := Nat.div_add_mod' j k
    have hi : j / k < l.length := (Nat.div_lt_iff_lt_mul k0).2 hj
    obtain ⟨us, h1, h2, h3⟩ := hc (j / k) _ (List.getElem?_eq_getElem hi)
    obtain ⟨rfl, _⟩ := hop _ _ _ _ h3
    rw [← e] at hu
    rw [flat_get' hk l (j / k) (j % k) _ (List.getElem?_eq_getElem hi) (Nat.mod_lt _ k0)] at hu
    have := h2 (j % k) u hu
    rwa [Nat.add_assoc, e] at this
  · obtain ⟨i, hi, rfl⟩ := List.getElem_of_mem hx
    obtain ⟨g, o, hA, hg, hc⟩ := h (by omega)
    obtain ⟨us, h1, h2, h3⟩ := hc i _ (List.getElem?_eq_getElem hi)
    exact (hop _ _ _ _ h3).2
theorem owns_vals {row : α → List C} {Wf : α → Prop} {w : World} {B f : Nat} (hown : ∀ x : α, Wf x → OwnS w B (f + 1) (enc x) (row x) []) : ∀ l : List α, (∀ x ∈ l, Wf x) → OwnS w B (f + 1) (l.flatMap enc) (l.flatMap row) []
  | [], _ => OwnS.nil
  | x :: l, h => by
    rw [List.flatMap_cons, List.flatMap_cons]
    exact (hown x (h x List.mem_cons_self)).append (owns_vals hown l fun y hy => h y (List.mem_cons_of_mem _ hy))
/-- An own row of flat structs is an owned slice. -/
theorem own_vals {row : α → List C} {Wf : α → Prop} {w : World} {B : Nat} {e : TypeId} {v : Value} {l : List α} (hr : ∀ x, (row x).length = k) (hown : ∀ x : α, Wf x → OwnS w B 1 (enc x) (row x) []) (h : w.ownsRow B e k v l.length (l.flatMap enc)) (hw : ∀ x ∈ l, Wf x) : ∃ F, Own w B 2 v (.sl k l.length (l.flatMap row)) F ∧ F.Nodup ∧ ∀ x ∈ F, B ≤ x ∧ x < w.heap.size :=
  OwnRow.own ⟨l.flatMap enc, [], h, by rw [flat_length' hr], owns_vals (f := 0) hown l hw, List.nodup_nil, fun x hx => by cases hx⟩
/-- Behind the sort of an own row: the pairwise order out of the sort's own words. -/
theorem own_pos {w : World} {B : Nat} {e : TypeId} {size n : Nat} {v : Value} {xs : List Value} (h : w.ownsRow B e size v n xs) (hn : 0 < n) : ∃ g c, v = .slice (some ⟨g, 0, none⟩) n c := by
  rcases h.2 with ⟨_, h⟩ | ⟨g, cap, cur, rfl, _⟩
  · omega
  · exact ⟨g, cap, rfl⟩
end Go.Proofs.Ytcfbkfmkjggcdaa.flt
namespace Go.Proofs.Ytcfbkfmkjggcdaa.lab
open Go Go.RowKit ty
set_option linter.unusedVariables false

def lessB (a b : ByteArray) : Bool := Op.bytesLess a.toList b.toList
/-- The first k are right, in order. -/
def GoodTo (l : List Label) (k : Nat) : Prop := ∀ i (h : i < l.length), i < k → KeyP l[i].key ∧ ValP l[i].value ∧ (∀ m (hm : m + 1 = i), lessB (l[m]'(by omega)).key l[i].key = true)
def LabelsP (l : List Label) : Prop := l.length ≤ 6 ∧ GoodTo l l.length
theorem good_next {l : List Label} {k : Nat} (h : GoodTo l k) (hk : k < l.length) (h1 : KeyP l[k].key) (h2 : ValP l[k].value) (h3 : ∀ m (hm : m + 1 = k), lessB (l[m]'(by omega)).key l[k].key = true) : GoodTo l (k + 1) := fun i hi hik => by
  by_cases e : i = k
  · subst e; exact ⟨h1, h2, h3⟩
  · exact h i hi (by omega)
theorem good_at {l : List Label} (h : GoodTo l l.length) {k : Nat} (hk : k < l.length) : KeyP l[k].key ∧ ValP l[k].value ∧ (∀ m (hm : m + 1 = k), lessB (l[m]'(by omega)).key l[k].key = true) := h k hk hk
/-- The texts of a list are no longer than so. -/
def Small (l : List Label) : Prop := ∀ x ∈ l, x.key.size ≤ 1048576 ∧ x.value.size ≤ 1048576
theorem small_of {l : List Label} (h : wsum Label.wt l ≤ 1048576) : Small l := fun x hx => by
  obtain ⟨i, hi, rfl⟩ := List.getElem_of_mem hx
  have h1 := wsum_mem Label.wt hi
  unfold Label.wt at h1 h
  omega
/-- The value of the first label with a key. -/
def atF : List Label → ByteArray → Option ByteArray
  | [], _ => none
  | x :: r, key => if x.key = key then some x.value else atF r key
theorem atF_none {l : List Label} {key : ByteArray} (h : ∀ x ∈ l, x.key ≠ key) : atF l key = none := by
  induction l with
  | nil => rfl
  | cons a r ih => rw [atF, if_neg (h a List.mem_cons_self)]; exact ih fun x hx => h x (List.mem_cons_of_mem _ hx)
theorem atF_some {l : List Label} {key : ByteArray} {k : Nat} (hk : k < l.length) (h1 : ∀ j (hj : j < k), (l[j]'(by omega)).key ≠ key) (h2 : l[k].key = key) : atF l key = some l[k].value := by
  induction l generalizing k with
  | nil => simp at hk
  | cons a r ih =>
    cases k with
    | zero => rw [atF]; exact if_pos h2
    | succ k =>
      have h0 : a.key ≠ key := h1 0 (by omega)
      rw [atF, if_neg h0]
      exact ih (k := k) (by simpa using hk) (fun j hj => h1 (j + 1) (by omega)) h2
/-- What LabelsLine gives. -/
def pairB (x : Label) : List UInt8 := x.key.data.toList ++ 61 :: x.value.data.toList
def joinB : List Label → List UInt8
  | [] => []
  | [x] => pairB x
  | x :: y :: r => pairB x ++ 44 :: joinB (y :: r)
theorem joinB_snoc : ∀ (l : List Label) (x : Label), joinB (l ++ [x]) = if l = [] then pairB x else joinB l ++ 44 :: pairB x
  | [], x => rfl
  | [y], x => by simp [joinB]
  | y :: z :: r, x => by
    have ih := joinB_snoc (z :: r) x
    rw [if_neg (by simp)] at ih ⊢
    show pairB y ++ 44 :: joinB ((z :: r) ++ [x]) = _
    rw [ih]
    simp [joinB]
open Classical in
noncomputable def lineF (l : List Label) : ByteArray := if LabelsP l then (if l = [] then ⟨#[45]⟩ else ⟨(joinB l).toArray⟩) else ⟨#[]⟩
theorem line_no {l : List Label} (h : ¬ LabelsP l) : lineF l = ⟨#[]⟩ := by unfold lineF; rw [if_neg h]
theorem line_nil : LabelsP [] → lineF [] = ⟨#[45]⟩ := fun h => by unfold lineF; rw [if_pos h, if_pos rfl]
theorem line_yes {l : List Label} (h : LabelsP l) (h2 : l ≠ []) : lineF l = ⟨(joinB l).toArray⟩ := by unfold lineF; rw [if_pos h, if_neg h2]
/-- In order by insertion: behind equal keys. -/
def ins (x : Label) (l : List Label) : List Label := l.takeWhile (fun y => !lessB x.key y.key) ++ x :: l.dropWhile (fun y => !lessB x.key y.key)
def sorted (l : List Label) : List Label := l.foldl (fun a x => ins x a) []
theorem ins_length (x : Label) (l : List Label) : (ins x l).length = l.length + 1 := by
  unfold ins
  have h := congrArg List.length (List.takeWhile_append_dropWhile (p := fun y => !lessB x.key y.key) (l := l))
  rw [List.length_append] at h ⊢
  rw [List.length_cons]
  omega
theorem sorted_snoc (l : List Label) (x : Label) : sorted (l ++ [x]) = ins x (sorted l) := by unfold sorted; rw [List.foldl_append]; rfl
theorem sorted_length (l : List Label) : (sorted l).length = l.length := by
  have h : ∀ (l acc : List Label), (l.foldl (fun a x => ins x a) acc).length = acc.length + l.length := by
    intro l
    induction l with
    | nil => intro acc; simp
    | cons a r ih => intro acc; rw [List.foldl_cons, ih, ins_length, List.length_cons]; omega
  have := h l []
  simpa [sorted] using this
theorem ins_mem {x : Label} {l : List Label} {y : Label} (h : y ∈ ins x l) : y = x ∨ y ∈ l := by
  unfold ins at h
  rcases List.mem_append.1 h with h | h
  · exact .inr ((List.takeWhile_sublist _).subset h)
  · rcases List.mem_cons.1 h with h | h
    · exact .inl h
    · exact .inr ((List.dropWhile_suffix _).subset h)
theorem sorted_mem : ∀ (l acc : List Label) {y : Label}, y ∈ l.foldl (fun a x => ins x a) acc → y ∈ l ∨ y ∈ acc
  | [], acc, y, h => .inr h
  | a :: r, acc, y, h => by
    rw [List.foldl_cons] at h
    rcases sorted_mem r (ins a acc) h with h | h
    · exact .inl (List.mem_cons_of_mem _ h)
    · rcases ins_mem h with rfl | h
      · exact .inl List.mem_cons_self
      · exact .inr h
theorem small_sorted {l : List Label} (h : Small l) : Small (sorted l) := fun x hx => by
  rcases sorted_mem l [] hx with h1 | h1
  · exact h x h1
  · cases h1
open Classical in
noncomputable def sortF (l : List Label) : List Label × Bool := if l.length ≤ 6 ∧ LabelsP (sorted l) then (sorted l, true) else (l, false)
theorem sort_no {l : List Label} (h : ¬ (l.length ≤ 6 ∧ LabelsP (sorted l))) : sortF l = (l, false) := by unfold sortF; rw [if_neg h]
theorem sort_yes {l : List Label} (h1 : l.length ≤ 6) (h : LabelsP (sorted l)) : sortF l = (sorted l, true) := by unfold sortF; rw [if_pos ⟨h1, h⟩]
end Go.Proofs.Ytcfbkfmkjggcdaa.lab
namespace Go.Proofs.Ytcfbkfmkjggcdaa.lab
open Go Go.RowKit ty
set_option linter.unusedVariables false

theorem same_yes {a b : ByteArray} (h : a = b) : (a.toList == b.toList) = true := by subst h; simp
theorem same_no {a b : ByteArray} (h : ¬ a = b) : (a.toList == b.toList) = false := by
  rw [beq_eq_false_iff_ne, ByteArray.toList_eq, ByteArray.toList_eq]
  exact fun e => h (by apply ByteArray.ext; exact Array.ext' e)
def twoS (o : Option ByteArray) : Value := match o with
  | some y => .tuple #[.string y, .bool true]
  | none => .tuple #[.string ⟨#[]⟩, .bool false]
theorem at_none' {l : List Label} {key : ByteArray} (h : ∀ j (hj : j < l.length), l[j].key ≠ key) : atF l key = none :=
  atF_none fun x hx => by
    obtain ⟨i, hi, rfl⟩ := List.getElem_of_mem hx
    exact h i hi
/-- Two lists the same, as far as k. -/
def SameTo (a b : List Label) (k : Nat) : Prop := ∀ i (h1 : i < a.length) (h2 : i < b.length), i < k → a[i].key = b[i].key ∧ a[i].value = b[i].value
def SameP (a b : List Label) : Prop := a.length = b.length ∧ SameTo a b a.length
theorem sameP_iff {a b : List Label} : SameP a b ↔ a = b := by
  constructor
  · rintro ⟨h1, h2⟩
    refine List.ext_getElem h1 fun i i1 i2 => ?_
    obtain ⟨e1, e2⟩ := h2 i i1 i2 i1
    cases hx : a[i]
    cases hy : b[i]
    rw [hx, hy] at e1 e2
    simp only at e1 e2
    rw [e1, e2]
  · rintro rfl
    exact ⟨rfl, fun i _ _ _ => ⟨rfl, rfl⟩⟩
end Go.Proofs.Ytcfbkfmkjggcdaa.lab
namespace Go.Proofs.Ytcfbkfmkjggcdaa
open Go Go.RowKit

def RowE (e : TypeId) (w : World) (g : Nat) (us : List Value) : Prop := w.heap[g]? = some (.cells us.toArray e (0, 0))
theorem RowE.below {e : TypeId} {w a : World} {g : Nat} {us : List Value} (h : RowE e w g us) (k : Below w.heap.size w a) : RowE e a g us := heap_kept k (heap_lt h) h
theorem RowE.cell {e : TypeId} {w : World} {g : Nat} {us : List Value} (h : RowE e w g us) (j : Nat) (u : Value) (hj : us[j]? = some u) : w.cell? ⟨g, j, none⟩ = some u := by
  rw [cell_of_row w _ j _ _ _ h]
  simpa using hj
theorem RowE.new (e : TypeId) (w : World) (us : List Value) : RowE e (w.alloc (.cells us.toArray e)) w.heap.size us := heap_alloc_new w _
theorem RowE.alloc {e e2 : TypeId} {w : World} {g : Nat} {us vs : List Value} (h : RowE e w g us) : RowE e (w.alloc (.cells vs.toArray e2)) g us := h.below ((Below.refl _ _).alloc (Nat.le_refl _) _)
theorem RowE.frozen {e : TypeId} {w : World} {g : Nat} {us : List Value} (h : RowE e w g us) (j : Nat) : w.frozen? ⟨g, j, none⟩ = false := by
  unfold RowE at h
  simp [World.frozen?, h]
theorem RowE.put {e : TypeId} {w : World} {g : Nat} {us : List Value} (h : RowE e w g us) (j : Nat) (v : Value) : RowE e (w.setCell ⟨g, j, none⟩ v) g (us.set j v) := by
  have := heap_setCell_same w g j us.toArray e v h
  unfold RowE
  rw [this]
  simp
theorem RowE.other {e : TypeId} {w : World} {g x j : Nat} {v : Value} {us : List Value} (h : RowE e w x us) (hx : x ≠ g) : RowE e (w.setCell ⟨g, j, none⟩ v) x us :=
  (Below.heap_setCell w ⟨g, j, none⟩ v x hx).trans h
theorem three_of {us : List Value} (h : us.length = 3) : ∃ a b c, us = [a, b, c] := by
  match us, h with
  | [a, b, c], _ => exact ⟨a, b, c, rfl⟩
theorem four_of {us : List Value} (h : us.length = 4) : ∃ a b c d, us = [a, b, c, d] := by
  match us, h with
  | [a, b, c, d], _ => exact ⟨a, b, c, d, rfl⟩
end Go.Proofs.Ytcfbkfmkjggcdaa
namespace Go.Proofs.Ytcfbkfmkjggcdaa.ty
open Go.ChangeShapes Go.WideShapes Go.ChangeAt Go.RowKit
set_option linter.unusedVariables false

theorem szLabel (x : Label) (left : Int) (w : World) (hx : x.Wf) (hl : LeftN left) :
    Calls Try.prog 41 #[.agg #[.string x.key, .string x.value], .int .i64 left] w fun e w' => e = .returned (.int .i64 (cutN left x.wt)) ∧ Below w.heap.size w w' := by
  obtain ⟨a0, a1⟩ := x
  obtain ⟨w0, w1⟩ := hx
  simp only at *
  unfold maxLen at w0 w1
  unfold LeftN at hl
  rw [show Label.wt ⟨a0, a1⟩ = a0.size + a1.size from rfl]
  have Hb := Lib.hid ((Below.refl w.heap.size w).alloc (Nat.le_refl _) (.cells #[.string a0, .string a1] 75))
  by_cases h0 : left < (a0.size : Int)
  · have He := Lib.hid (cutN_no (show left < ((a0.size + a1.size : Nat) : Int) by omega))
    go_enter Try.func41, Try.ntmps41
    go_wp2_with fail
    go_ret
    exact ⟨by rw [He.out]; rfl, Hb.out⟩
  by_cases h1 : left - a0.size < (a1.size : Int)
  · have He := Lib.hid (cutN_no (show left < ((a0.size + a1.size : Nat) : Int) by omega))
    go_enter Try.func41, Try.ntmps41
    go_wp2_with fail
    go_ret
    exact ⟨by rw [He.out]; rfl, Hb.out⟩
  have He := Lib.hid (cutN_yes (show ¬ left < ((a0.size + a1.size : Nat) : Int) by omega))
  have He2 := Lib.hid (show left - ((a0.size + a1.size : Nat) : Int) = left - a0.size - a1.size by omega)
  go_enter Try.func41, Try.ntmps41
  go_wp2_with fail
  go_ret
  exact ⟨by rw [He.out, He2.out]; rfl, Hb.out⟩
end Go.Proofs.Ytcfbkfmkjggcdaa.ty
namespace Go.Proofs.Ytcfbkfmkjggcdaa.ty
open Go.ChangeShapes Go.WideShapes Go.ChangeAt Go.RowKit
set_option linter.unusedVariables false

theorem szLabelS (l : List Label) (f : Nat) (v : Value) (left : Int) (w : World) (h : Lies w f v (.sl 2 l.length (l.flatMap Label.row))) (hl : LeftN left) :
    Calls Try.prog 21 #[v, .int .i64 left] w fun e w' => e = .returned (.int .i64 (cutN left (l.length + wsum Label.wt l))) ∧ Below w.heap.size w w' := by
  obtain ⟨A, c, rfl, hc1, hc2, f', rfl, hk⟩ := els_of Label.row_length h
  unfold maxLen at hc2
  unfold LeftN at hl
  have Hk := Lib.hid hk
  clear h hk
  by_cases h0 : left < l.length
  · have He := Lib.hid (cutN_no (show left < ((l.length + wsum Label.wt l : Nat) : Int) by omega))
    go_enter Try.func21, Try.ntmps21
    go_wp2_with fail
    go_ret
    exact ⟨by rw [He.out]; rfl, Below.refl _ _⟩
  go_enter Try.func21, Try.ntmps21
  go_wp2_with fail
  go_loopw [1, 5] (fun a i wr => ∃ (j : Nat) (z : Int), j ≤ l.length ∧ i = .int .i64 j ∧ a = .int .i64 z ∧ 0 ≤ z ∧ z ≤ 1048576 ∧ Hid (z = left - l.length - wsum Label.wt (l.take j)) ∧ Below w.heap.size w wr) (fun _ i _ => l.length - (intOf i).toNat)
  case atStart => exact ⟨0, left - l.length, Nat.zero_le _, rfl, rfl, by omega, by omega, by unfold Hid; simp [wsum], Below.refl _ _⟩
  case round =>
    obtain ⟨j, z, hj, rfl, rfl, hz0, hz1, hin, hbel⟩ := hrel
    by_cases hlt : j < l.length
    · obtain ⟨g, o, rfl, hg, us, hus, hc, hls⟩ := (Hk.out.below hbel).get hlt
      obtain ⟨rfl, hwf⟩ := Label.opened hls
      have q0 : wr.cell? ⟨g, o + j * 2, none⟩ = some (.string l[j].key) := hc 0 _ rfl
      have q1 : wr.cell? ⟨g, o + j * 2 + 1, none⟩ = some (.string l[j].value) := hc 1 _ rfl
      have HC := Lib.hid (szLabel l[j] z wr hwf ⟨hz0, hz1⟩)
      have hnext := wsum_take Label.wt hlt
      have hall := wsum_all Label.wt l (j + 1)
      have Hbel := Lib.hid hbel
      clear hls hbel hg hus hc hwf
      by_cases h1 : z < (l[j].wt : Int)
      · have He := Lib.hid (cutN_no (show left < ((l.length + wsum Label.wt l : Nat) : Int) by have := hin.out; omega))
        rw [cutN_no h1] at HC
        clear hnext hall hin h1
        generalize l[j] = x at q0 q1 HC
        go_wp2_with fail
        refine HC.out.mono ?_
        rintro e w1 ⟨rfl, hb1⟩
        have Hbel1 := Lib.hid (Hbel.out.trans (hb1.mono Hbel.out.size))
        clear hb1 q0 q1
        go_wp2_with fail
        go_ret
        exact ⟨by rw [He.out]; rfl, Hbel1.out⟩
      · have Hin := Lib.hid (show z - l[j].wt = left - l.length - wsum Label.wt (l.take (j + 1)) by have := hin.out; omega)
        rw [cutN_yes h1] at HC
        clear hnext hall hin
        generalize l[j] = x at q0 q1 HC h1 Hin
        generalize x.wt = y at HC h1 Hin
        go_wp2_with fail
        refine HC.out.mono ?_
        rintro e w1 ⟨rfl, hb1⟩
        have Hbel1 := Lib.hid (Hbel.out.trans (hb1.mono Hbel.out.size))
        clear hb1 q0 q1
        go_wp2_with fail
        go_roundw
        case rel => exact ⟨j + 1, z - y, by omega, by go_num, rfl, by omega, by omega, Hin.out, Hbel1.out⟩
        case measure => simp [intOf]; omega
    · obtain rfl : j = l.length := by omega
      rw [List.take_of_length_le (Nat.le_refl _)] at hin
      have He := Lib.hid (cutN_yes (show ¬ left < ((l.length + wsum Label.wt l : Nat) : Int) by have := hin.out; omega))
      have Hin := Lib.hid (show left - ((l.length + wsum Label.wt l : Nat) : Int) = z by have := hin.out; omega)
      have Hbel := Lib.hid hbel
      clear hin hbel
      go_wp2_with fail
      go_ret
      exact ⟨by rw [He.out, Hin.out]; rfl, Hbel.out⟩
end Go.Proofs.Ytcfbkfmkjggcdaa.ty
namespace Go.Proofs.Ytcfbkfmkjggcdaa
open Go Go.RowKit
set_option linter.unusedVariables false

/-- A struct in memory of the call's own is handed back. -/
def AggOut (w : World) (D : Nat) (ds : List C) (e : Ending) (w' : World) : Prop :=
  ∃ us F, e = .returned (.agg us.toArray) ∧ OwnS w' w.heap.size D us ds F ∧ F.Nodup ∧ Below w.heap.size w w'
theorem OwnRow.is_slice {w : World} {B f : Nat} {e : TypeId} {size : Nat} {v : Value} {n : Nat} {cells : List C} (h : OwnRow w B f e size v n cells) : ∃ A c, v = .slice A n c := by
  obtain ⟨xs, F, h1, _⟩ := h
  rcases h1.2 with ⟨rfl, rfl⟩ | ⟨g, cap, cur, rfl, _⟩
  · exact ⟨none, 0, rfl⟩
  · exact ⟨_, _, rfl⟩
theorem LiesS.keep {w w' : World} {f : Nat} {vs : List Value} {ds : List C} (h : LiesS w f vs ds) (hb : Below w.heap.size w w') : LiesS w' f vs ds := h.kept hb.block
theorem size_setCell (w : World) (a : Addr) (u : Value) : (w.setCell a u).heap.size = w.heap.size := by simp [World.setCell]
end Go.Proofs.Ytcfbkfmkjggcdaa
namespace Go.Proofs.Ytcfbkfmkjggcdaa.ty
open Go Go.RowKit
set_option linter.unusedVariables false

structure St3 (LT IT : TypeId) (w : World) (ar zr cur : List Value) (z : World) : Prop where
  bel : Below w.heap.size w z
  k0 : RowE LT z w.heap.size ar
  k1 : RowE IT z (w.heap.size + 1) zr
  k2 : RowE IT z (w.heap.size + 2) cur
variable {LT IT : TypeId} {w z z' : World} {ar zr cur : List Value}
theorem St3.lt (h : St3 LT IT w ar zr cur z) : w.heap.size + 3 ≤ z.heap.size := heap_lt h.k2
theorem St3.call (h : St3 LT IT w ar zr cur z) (hb : Below z.heap.size z z') : St3 LT IT w ar zr cur z' :=
  ⟨below_link h.bel hb h.bel.size, h.k0.below hb, h.k1.below hb, h.k2.below hb⟩
theorem St3.put (h : St3 LT IT w ar zr cur z) (j : Nat) (u : Value) : St3 LT IT w ar zr (cur.set j u) (z.setCell ⟨w.heap.size + 2, j, none⟩ u) :=
  ⟨h.bel.setCell (by show w.heap.size ≤ w.heap.size + 2; omega) _, RowE.other h.k0 (by omega), RowE.other h.k1 (by omega), RowE.put h.k2 j u⟩
theorem St3.new : St3 LT IT w ar zr cur (((w.alloc (.cells ar.toArray LT)).alloc (.cells zr.toArray IT)).alloc (.cells cur.toArray IT)) := by
  refine ⟨(((Below.refl _ _).alloc (Nat.le_refl _) _).alloc (by simp) _).alloc (by simp; omega) _, ((RowE.new _ _ _).alloc).alloc, ?_, ?_⟩
  · have h := RowE.new IT (w.alloc (.cells ar.toArray LT)) zr
    rw [show (w.alloc (.cells ar.toArray LT)).heap.size = w.heap.size + 1 by simp] at h
    exact h.alloc
  · have h := RowE.new IT ((w.alloc (.cells ar.toArray LT)).alloc (.cells zr.toArray IT)) cur
    rw [show ((w.alloc (.cells ar.toArray LT)).alloc (.cells zr.toArray IT)).heap.size = w.heap.size + 2 by simp] at h
    exact h
/-- As St3, changed in the argument's own box. -/
structure St2 (IT : TypeId) (w : World) (cur zr : List Value) (z : World) : Prop where
  bel : Below w.heap.size w z
  k0 : RowE IT z w.heap.size cur
  k1 : RowE IT z (w.heap.size + 1) zr
theorem St2.lt (h : St2 IT w cur zr z) : w.heap.size + 2 ≤ z.heap.size := heap_lt h.k1
theorem St2.call (h : St2 IT w cur zr z) (hb : Below z.heap.size z z') : St2 IT w cur zr z' := ⟨below_link h.bel hb h.bel.size, h.k0.below hb, h.k1.below hb⟩
theorem St2.put (h : St2 IT w cur zr z) (j : Nat) (u : Value) : St2 IT w (cur.set j u) zr (z.setCell ⟨w.heap.size, j, none⟩ u) :=
  ⟨h.bel.setCell (Nat.le_refl _) _, RowE.put h.k0 j u, RowE.other h.k1 (by omega)⟩
theorem St2.new : St2 IT w cur zr ((w.alloc (.cells cur.toArray IT)).alloc (.cells zr.toArray IT)) := by
  refine ⟨((Below.refl _ _).alloc (Nat.le_refl _) _).alloc (by simp) _, (RowE.new _ _ _).alloc, ?_⟩
  have h := RowE.new IT (w.alloc (.cells cur.toArray IT)) zr
  rw [show (w.alloc (.cells cur.toArray IT)).heap.size = w.heap.size + 1 by simp] at h
  exact h
/-- An owned slice of a later call, with its blocks. -/
structure Og (z : World) (B E f : Nat) (v : Value) (d : C) (F : List Nat) : Prop where
  own : Own z B f v d F
  nod : F.Nodup
  rng : ∀ x ∈ F, B ≤ x ∧ x < E
theorem Og.call {B E f : Nat} {v : Value} {d : C} {F : List Nat} (h : Og z B E f v d F) (hb : Below z.heap.size z z') : Og z' B E f v d F := ⟨h.own.below hb, h.nod, h.rng⟩
theorem Og.put {B E f g j : Nat} {u v : Value} {d : C} {F : List Nat} (h : Og z B E f v d F) (hg : g < B) : Og (z.setCell ⟨g, j, none⟩ u) B E f v d F := ⟨Own.setCell_low h.own hg, h.nod, h.rng⟩
theorem Og.done {B B' E f f' g : Nat} {c : Array Value} {v : Value} {d : C} {F : List Nat} (h : Og z B E f v d F) (hg : g < B) (hB : B' ≤ B) (hf : f ≤ f') : Own (z.setRow g c) B' f' v d F :=
  Own.deeper hf ((Own.setRow_low h.own hg).lower hB)
theorem Og.apart {B E f B' E' f' : Nat} {z' : World} {v v' : Value} {d d' : C} {F F' : List Nat} (h : Og z B E f v d F) (h' : Og z' B' E' f' v' d' F') (hE : E ≤ B') : ∀ x ∈ F, x ∉ F' := fun x hx hx' => by
  have h1 := (h.rng x hx).2
  have h2 := (h'.rng x hx').1
  omega
theorem els_at {α : Type} {row : α → List C} {k f n c : Nat} {A : Option Addr} {l : List α} (hr : ∀ x, (row x).length = k) (h : Lies w f (.slice A n c) (.sl k l.length (l.flatMap row))) : ∃ f', ElsAt row w f' A l k := by
  obtain ⟨A', c', e, _, _, f', rfl, hk⟩ := els_of hr h
  injection e with e1 _ _
  subst e1
  exact ⟨f', hk⟩
end Go.Proofs.Ytcfbkfmkjggcdaa.ty
namespace Go.Proofs.Ytcfbkfmkjggcdaa.ty
open Go.ChangeShapes Go.WideShapes Go.ChangeAt Go.RowKit
set_option linter.unusedVariables false

theorem sizeLabel : (Try.prog.info? 82).map (·.size) = some 2 := by kernel_rfl
theorem toLabel (x : Label) (w : World) (hx : x.Wf) :
    Calls Try.prog 45 #[.agg #[.string x.key, .string x.value]] w fun e w' => e = .returned (.agg #[.string x.key, .string x.value]) ∧ Below w.heap.size w w' := by
  obtain ⟨a0, a1⟩ := x
  clear hx
  simp only
  have Hb : Hid (∀ (a b c : Obj), Below w.heap.size w (((w.alloc a).alloc b).alloc c)) := fun a b c => (((Below.refl _ _).alloc (Nat.le_refl _) a).alloc (by simp) b).alloc (by simp <;> omega) c
  go_enter Try.func45, Try.ntmps45
  go_wp2_with fail
  refine bodyPost_ret (v := .agg #[.string a0, .string a1]) ?_ rfl ⟨rfl, Hb.out _ _ _⟩
  have hrow : (((w.alloc (.cells #[.string a0, .string a1] 75)).alloc (.cells #[.string a0, .string a1] 82)).alloc (.cells #[.string a0, .string a1] 82)).heap[w.heap.size + 1]? = some (.cells #[.string a0, .string a1] 82 (0, 0)) := by
    rw [Below.heap_alloc _ _ _ (by simp)]
    have h := heap_alloc_new (w.alloc (.cells #[.string a0, .string a1] 75)) (.cells #[.string a0, .string a1] 82)
    simpa using h
  exact results_cell_row rfl _ _ (w.heap.size + 1) _ #[.string a0, .string a1] (0, 0) _ rfl hrow Try.underlying82 rfl sizeLabel
end Go.Proofs.Ytcfbkfmkjggcdaa.ty
