/- impl.copyOf's stack of trees still to be made: what holds between two rounds, and that a round keeps it. Over any program. -/
import Derived.Test.YtmldigfghiofkaaFill
import Derived.Test.YtmldigfghiofkaaCellA
import Derived.WalkSmall
import Derived.RangeFuncBox
namespace Go.Proofs.Ytmldigfghiofkaa
open Go Go.RowKit
set_option linter.unusedVariables false

/-- The slice with head A, length n reads as the cells xs (size cells an element). -/
def RdN (w : World) (A : Option Addr) (n size : Nat) (xs : List Value) : Prop :=
  xs.length = n * size ∧ (0 < n → ∃ g o, A = some ⟨g, o, none⟩ ∧ g < w.heap.size ∧ ∀ j, j < n * size → ∀ u, xs[j]? = some u → w.cell? ⟨g, o + j, none⟩ = some u)
theorem RdN.below {w w' : World} {A : Option Addr} {n size : Nat} {xs : List Value} (h : RdN w A n size xs) (hb : Below w.heap.size w w') : RdN w' A n size xs := by
  refine ⟨h.1, fun hn => ?_⟩
  obtain ⟨g, o, rfl, hg, hc⟩ := h.2 hn
  exact ⟨g, o, rfl, Nat.lt_of_lt_of_le hg hb.size, fun j hj u hu => (World.cell?_of_block (hb.block g hg)).trans (hc j hj u hu)⟩
theorem lies_cells {w : World} {f : Nat} {v : Value} {size n : Nat} {cells : List C} (h : Lies w f v (.sl size n cells)) :
    ∃ A c xs, v = .slice A n c ∧ n ≤ c ∧ c ≤ maxLen ∧ RdN w A n size xs ∧ LiesS w f xs cells := by
  obtain ⟨A, c, rfl, h1, h2, h3, f', rfl, h4⟩ := h.sl
  by_cases hn : 0 < n
  · obtain ⟨g, o, rfl, hg, hc⟩ := h4 hn
    refine ⟨_, c, (List.range (n * size)).map fun j => (w.cell? ⟨g, o + j, none⟩).getD undef, rfl, h1, h2, ⟨by simp, fun _ => ⟨g, o, rfl, hg, fun j hj u hu => ?_⟩⟩, by simp [h3], fun m u d hu hd => ?_⟩
    · have hj' : j < cells.length := by omega
      obtain ⟨u', hu', _⟩ := hc j cells[j] (List.getElem?_eq_getElem hj')
      simp [hj, hu'] at hu
      rw [hu', ← hu]
    · obtain ⟨u', hu', hl⟩ := hc m d hd
      have hm : m < n * size := by have := (List.getElem?_eq_some_iff.1 hd).1; omega
      simp [hm, hu'] at hu
      rw [← hu]
      exact hl.deeper (Nat.le_succ f')
  · obtain rfl : n = 0 := by omega
    have : cells = [] := List.eq_nil_of_length_eq_zero (by simpa using h3)
    subst this
    exact ⟨A, c, [], rfl, h1, h2, ⟨by simp, fun h => absurd h (by omega)⟩, LiesS.nil⟩
/-- append(v, x...) of a slice x that reads, nil or not. -/
theorem wpList_append_rdN {P : Program} {w : World} {ops : Array Oper} {rest : List Oper} {o : Oper} {a : Act} {Q : Exit → Act → World → Prop} (hgd : o.guard = none) (s x : Operand) (t : TypeId)
    (ho : o.op = .call { callee := .builtin .append, args := #[s, x], argTypes := #[t, t] })
    (base : Nat) (e : TypeId) (i : TypeInfo) (z : Value) (size bytes : Nat) (ht : P.underlying t = some (.slice e)) (hi : P.info? e = some i) (hz : i.zero = some z)
    (hsize : i.size = size) (hby : i.bytes = bytes) (hzs : z.cells.size = size) (h0 : 0 < size)
    (v : Value) (n : Nat) (xs : List Value) (hs : a.eval s = v) (hown : w.ownsRow base e size v n xs)
    (A : Option Addr) (m c : Nat) (news : List Value) (hx : a.eval x = .slice A m c) (hr : RdN w A m size news) (h1 : ∀ u ∈ news, u.oneCell' = true)
    (h63 : n + m ≤ maxLen) (hbytes : (n + m) * bytes ≤ 140737488355328) (hbase : base ≤ w.heap.size)
    (h : ∀ v' w', w'.ownsRow base e size v' (n + m) (xs ++ news) → w.grownBy w' v.ownBlock → (v'.ownBlock = v.ownBlock ∨ v'.ownBlock = some w.heap.size) → wpList P ops Q rest (a.put o.dst v') w') :
    wpList P ops Q (o :: rest) a w := by
  refine wpList_plain hgd fun K hK => ?_
  have hrun : ∃ v' w', (Builtin.append_ #[t, t] o.type #[v, .slice A m c]).run P w = .ok v' w' ∧ w'.ownsRow base e size v' (n + m) (xs ++ news) ∧ w.grownBy w' v.ownBlock ∧ (v'.ownBlock = v.ownBlock ∨ v'.ownBlock = some w.heap.size) := by
    cases A with
    | none =>
      have hm : m = 0 := by
        rcases Nat.eq_zero_or_pos m with h | h
        · exact h
        · obtain ⟨g, o, hg, _⟩ := hr.2 h
          cases hg
      subst hm
      have hn : news = [] := List.eq_nil_of_length_eq_zero (by simpa using hr.1)
      subst hn
      refine ⟨v, w, ?_, by simpa using hown, World.grownBy.refl _ _, .inl rfl⟩
      rcases hown.2 with ⟨rfl, rfl⟩ | ⟨g, cap, cur, rfl, _, _, hnc, _⟩
      · simp [Builtin.append_, run_underlying ht, sizeOf, typeInfo, hi, Builtin.lenOf, Builtin.firstCells]
      · simp [Builtin.append_, run_underlying ht, sizeOf, typeInfo, hi, Builtin.lenOf, Builtin.firstCells, hnc, storeCells]
    | some ad =>
      obtain ⟨v', w', r0, r1, r2, _, r3⟩ := run_append_own_at (P := P) w base t o.type e i z size bytes ht hi hz hsize hby hzs h0 v n xs hown ad m c news hr.1 (fun j u hu => by
        have hj : j < m * size := by have := (List.getElem?_eq_some_iff.1 hu).1; have := hr.1; omega
        have hm : 0 < m := by
          rcases Nat.eq_zero_or_pos m with h | h
          · subst h; omega
          · exact h
        obtain ⟨g, o', hg, _, hc⟩ := hr.2 hm
        injection hg with hg
        subst hg
        rw [Addr.add_lit]
        exact hc j hj u hu) h1 h63 hbytes hbase
      exact ⟨v', w', r0, r1, r2, r3⟩
  obtain ⟨v', w', hr', h2, h3, h5⟩ := hrun
  unfold Oper.wp execOp
  simp only [ho, resolve, invoke, builtin, Sem.run_bind, Sem.run_pure, Result.andThen_ok, List.map_toArray, List.map_cons, List.map_nil, hs, hx, hr']
  exact hK _ _ (h v' w' h2 h3 h5)
theorem LiesS.ones {w : World} {f : Nat} {vs : List Value} {ds : List C} (h : LiesS w f vs ds) : ∀ u ∈ vs, u.oneCell' = true := by
  intro v hv
  obtain ⟨m, hm, rfl⟩ := List.getElem_of_mem hv
  have h2 := h.2 m _ _ (List.getElem?_eq_getElem hm) (List.getElem?_eq_getElem (by have := h.1; omega))
  generalize vs[m] = v at h2
  generalize ds[m]'(by have := h.1; omega) = d at h2
  cases f with
  | zero => exact h2.elim
  | succ f =>
    cases d with
    | int k n => obtain ⟨rfl, _⟩ := h2; rfl
    | bool b => obtain rfl := h2; rfl
    | str s => obtain ⟨rfl, _⟩ := h2; rfl
    | sl size n cells => obtain ⟨A, c, rfl, _⟩ := h2; rfl

theorem own_base {w : World} {B B' : Nat} {e : TypeId} {size : Nat} {v : Value} {n : Nat} {xs : List Value} (h : w.ownsRow B e size v n xs) (hb : B' ≤ B) : w.ownsRow B' e size v n xs := by
  refine ⟨h.1, ?_⟩
  rcases h.2 with h0 | ⟨g, cap, cur, h1, h2, h3⟩
  · exact .inl h0
  · exact .inr ⟨g, cap, cur, h1, by omega, h3⟩
namespace tree
/-- A place as a pointer. -/
def ptr (it : It) : Value := .pointer (some ⟨it.1, it.2.1, none⟩)
def sizesI : List It → Nat
  | [] => 0
  | it :: r => size it.2.2 + sizesI r
theorem sizesI_append : ∀ a b : List It, sizesI (a ++ b) = sizesI a + sizesI b
  | [], b => by simp [sizesI]
  | x :: r, b => by rw [List.cons_append, sizesI, sizesI, sizesI_append r b]; omega
theorem size_pos (t : T) : 1 ≤ size t := by cases t; rw [size]; omega
theorem sizesI_length : ∀ a : List It, a.length ≤ sizesI a
  | [] => by simp [sizesI]
  | x :: r => by rw [sizesI, List.length_cons]; have := sizesI_length r; have := size_pos x.2.2; omega
theorem sizesI_kids (g : Nat) (kids : List T) : ∀ n, n ≤ kids.length → sizesI (kidIts g kids n) = sizes (kids.take n)
  | 0, _ => by simp [kidIts, sizesI, sizes]
  | n + 1, h => by
    have hx : kids.getD n zero = kids[n] := by simp [List.getD, show n < kids.length by omega]
    rw [kidIts, sizesI, sizesI_kids g kids n (by omega), List.take_succ_eq_append_getElem (by omega), sizes_append, hx]
    simp only [sizes]
    omega
theorem kidIts_length (g : Nat) (kids : List T) : ∀ n, (kidIts g kids n).length = n
  | 0 => rfl
  | n + 1 => by rw [kidIts, List.length_cons, kidIts_length g kids n]
def Apart (a b : It) : Prop := a.1 = b.1 → a.2.1 + 6 ≤ b.2.1 ∨ b.2.1 + 6 ≤ a.2.1
/-- The place holds the tree as it lay when the call began. -/
def Holds (w wr : World) (f : Nat) (it : It) : Prop := ∃ cur e us, wr.heap[it.1]? = some (.cells cur e (0, 0)) ∧ us.length = 6 ∧ (∀ j u, us[j]? = some u → cur[it.2.1 + j]? = some u) ∧ LiesS w f us (row it.2.2)

structure CpS (w w1 : World) (f : Nat) (t : T) (sb1 : Option Nat) (eP : TypeId) (resT : TypeId) (zr : Array Value) (r : Value) (wr : World) (todo : List It) : Prop where
  own : wr.ownsRow (w.heap.size + 2) eP 1 r todo.length ((todo.map ptr).reverse)
  it : ∀ it ∈ todo, w.heap.size ≤ it.1 ∧ it.1 ≠ w.heap.size + 1 ∧ r.ownBlock ≠ some it.1 ∧ Holds w wr f it
  apart : todo.Pairwise Apart
  bel : Below w.heap.size w wr
  res : wr.heap[w.heap.size + 1]? = some (.cells zr resT (0, 0))
  bd : sizesI todo ≤ size t
  sz : w.heap.size + 3 ≤ wr.heap.size
  wt : ∀ it ∈ todo, weight it.2.2 ≤ 1048576
  wand : ∀ w', Fin wr w' r.ownBlock todo w.heap.size → Fin w1 w' sb1 [(w.heap.size, 0, t)] w.heap.size

/-- While the kids are pushed. -/
structure InS (w : World) (W6 : World) (gs gk : Nat) (kids : List T) (todo : List It) (eP : TypeId) (j : Nat) (r : Value) (wD : World) : Prop where
  own : wD.ownsRow (w.heap.size + 2) eP 1 r (j + todo.length) (((kidIts gk kids j ++ todo).map ptr).reverse)
  os : wD.os = W6.os
  tape : wD.tape = W6.tape
  output : wD.output = W6.output
  size : W6.heap.size ≤ wD.heap.size
  keep : ∀ b, b < W6.heap.size → b ≠ gs → wD.heap[b]? = W6.heap[b]?
  ob : r.ownBlock = some gs ∨ ∃ b, r.ownBlock = some b ∧ W6.heap.size ≤ b
end tree
end Go.Proofs.Ytmldigfghiofkaa
