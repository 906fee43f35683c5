/- Merged: CpM CpStep El Flat CofStrI. -/
import Derived.Test.YtangdmjdjiddcaaGA4
import Derived.WalkSmall
import Derived.RangeFuncBox
import Derived.Test.YtangdmjdjiddcaaGA2
import Derived.Deep.Slices
import Derived.Test.YtangdmjdjiddcaaRows
import Derived.ProofKit
import Derived.OpenShut
namespace Go.Proofs.Ytangdmjdjiddcaa
open Go Go.RowKit
set_option linter.unusedVariables false

/-- The slice with head A, length n reads as the cells xs (size cells an element). -/
def RdN (w : World) (A : Option Addr) (n size : Nat) (xs : List Value) : Prop :=
  xs.length = n * size ∧ (0 < n → ∃ g o, A = some ⟨g, o, none⟩ ∧ g < w.heap.size ∧ ∀ j, j < n * size → ∀ u, xs[j]? = some u → w.cell? ⟨g, o + j, none⟩ = some u)
theorem RdN.below {w w' : World} {A : Option Addr} {n size : Nat} {xs : List Value} (h : RdN w A n size xs) (hb : Below w.heap.size w w') : RdN w' A n size xs := by
  refine ⟨h.1, fun hn => ?_⟩
  obtain ⟨g, o, rfl, hg, hc⟩ := h.2 hn
  exact ⟨g, o, rfl, Nat.lt_of_lt_of_le hg hb.size, fun j hj u hu => (World.cell?_of_block (hb.block g hg)).trans (hc j hj u hu)⟩
theorem lies_cells {w : World} {f : Nat} {v : Value} {size n : Nat} {cells : List C} (h : Lies w f v (.sl size n cells)) :
    ∃ A c xs, v = .slice A n c ∧ n ≤ c ∧ c ≤ maxLen ∧ RdN w A n size xs ∧ LiesS w f xs cells := by
  obtain ⟨A, c, rfl, h1, h2, h3, f', rfl, h4⟩ := h.sl
  by_cases hn : 0 < n
  · obtain ⟨g, o, rfl, hg, hc⟩ := h4 hn
    refine ⟨_, c, (List.range (n * size)).map fun j => (w.cell? ⟨g, o + j, none⟩).getD undef, rfl, h1, h2, ⟨by simp, fun _ => ⟨g, o, rfl, hg, fun j hj u hu => ?_⟩⟩, by simp [h3], fun m u d hu hd => ?_⟩
    · have hj' : j < cells.length := by omega
      obtain ⟨u', hu', _⟩ := hc j cells[j] (List.getElem?_eq_getElem hj')
      simp [hj, hu'] at hu
      rw [hu', ← hu]
    · obtain ⟨u', hu', hl⟩ := hc m d hd
      have hm : m < n * size := by have := (List.getElem?_eq_some_iff.1 hd).1; omega
      simp [hm, hu'] at hu
      rw [← hu]
      exact hl.deeper (Nat.le_succ f')
  · obtain rfl : n = 0 := by omega
    have : cells = [] := List.eq_nil_of_length_eq_zero (by simpa using h3)
    subst this
    exact ⟨A, c, [], rfl, h1, h2, ⟨by simp, fun h => absurd h (by omega)⟩, LiesS.nil⟩
/-- append(v, x...) of a slice x that reads, nil or not. -/
theorem wpList_append_rdN {P : Program} {w : World} {ops : Array Oper} {rest : List Oper} {o : Oper} {a : Act} {Q : Exit → Act → World → Prop} (hgd : o.guard = none) (s x : Operand) (t : TypeId)
    (ho : o.op = .call { callee := .builtin .append, args := #[s, x], argTypes := #[t, t] })
    (base : Nat) (e : TypeId) (i : TypeInfo) (z : Value) (size bytes : Nat) (ht : P.underlying t = some (.slice e)) (hi : P.info? e = some i) (hz : i.zero = some z)
    (hsize : i.size = size) (hby : i.bytes = bytes) (hzs : z.cells.size = size) (h0 : 0 < size)
    (v : Value) (n : Nat) (xs : List Value) (hs : a.eval s = v) (hown : w.ownsRow base e size v n xs)
    (A : Option Addr) (m c : Nat) (news : List Value) (hx : a.eval x = .slice A m c) (hr : RdN w A m size news) (h1 : ∀ u ∈ news, u.oneCell' = true)
    (h63 : n + m ≤ maxLen) (hbytes : (n + m) * bytes ≤ 140737488355328) (hbase : base ≤ w.heap.size)
    (h : ∀ v' w', w'.ownsRow base e size v' (n + m) (xs ++ news) → w.grownBy w' v.ownBlock → (v'.ownBlock = v.ownBlock ∨ v'.ownBlock = some w.heap.size) → wpList P ops Q rest (a.put o.dst v') w') :
    wpList P ops Q (o :: rest) a w := by
  refine wpList_plain hgd fun K hK => ?_
  have hrun : ∃ v' w', (Builtin.append_ #[t, t] o.type #[v, .slice A m c]).run P w = .ok v' w' ∧ w'.ownsRow base e size v' (n + m) (xs ++ news) ∧ w.grownBy w' v.ownBlock ∧ (v'.ownBlock = v.ownBlock ∨ v'.ownBlock = some w.heap.size) := by
    cases A with
    | none =>
      have hm : m = 0 := by
        rcases Nat.eq_zero_or_pos m with h | h
        · exact h
        · obtain ⟨g, o, hg, _⟩ := hr.2 h
          cases hg
      subst hm
      have hn : news = [] := List.eq_nil_of_length_eq_zero (by simpa using hr.1)
      subst hn
      refine ⟨v, w, ?_, by simpa using hown, World.grownBy.refl _ _, .inl rfl⟩
      rcases hown.2 with ⟨rfl, rfl⟩ | ⟨g, cap, cur, rfl, _, _, hnc, _⟩
      · simp [Builtin.append_, run_underlying ht, sizeOf, typeInfo, hi, Builtin.lenOf, Builtin.firstCells]
      · simp [Builtin.append_, run_underlying ht, sizeOf, typeInfo, hi, Builtin.lenOf, Builtin.firstCells, hnc, storeCells]
    | some ad =>
      obtain ⟨v', w', r0, r1, r2, _, r3⟩ := run_append_own_at (P := P) w base t o.type e i z size bytes ht hi hz hsize hby hzs h0 v n xs hown ad m c news hr.1 (fun j u hu => by
        have hj : j < m * size := by have := (List.getElem?_eq_some_iff.1 hu).1; have := hr.1; omega
        have hm : 0 < m := by
          rcases Nat.eq_zero_or_pos m with h | h
          · subst h; omega
          · exact h
        obtain ⟨g, o', hg, _, hc⟩ := hr.2 hm
        injection hg with hg
        subst hg
        rw [Addr.add_lit]
        exact hc j hj u hu) h1 h63 hbytes hbase
      exact ⟨v', w', r0, r1, r2, r3⟩
  obtain ⟨v', w', hr', h2, h3, h5⟩ := hrun
  unfold Oper.wp execOp
  simp only [ho, resolve, invoke, builtin, Sem.run_bind, Sem.run_pure, Result.andThen_ok, List.map_toArray, List.map_cons, List.map_nil, hs, hx, hr']
  exact hK _ _ (h v' w' h2 h3 h5)
theorem LiesS.ones {w : World} {f : Nat} {vs : List Value} {ds : List C} (h : LiesS w f vs ds) : ∀ u ∈ vs, u.oneCell' = true := by
  intro v hv
  obtain ⟨m, hm, rfl⟩ := List.getElem_of_mem hv
  have h2 := h.2 m _ _ (List.getElem?_eq_getElem hm) (List.getElem?_eq_getElem (by have := h.1; omega))
  generalize vs[m] = v at h2
  generalize ds[m]'(by have := h.1; omega) = d at h2
  cases f with
  | zero => exact h2.elim
  | succ f =>
    cases d with
    | int k n => obtain ⟨rfl, _⟩ := h2; rfl
    | bool b => obtain rfl := h2; rfl
    | str s => obtain ⟨rfl, _⟩ := h2; rfl
    | sl size n cells => obtain ⟨A, c, rfl, _⟩ := h2; rfl

theorem own_base {w : World} {B B' : Nat} {e : TypeId} {size : Nat} {v : Value} {n : Nat} {xs : List Value} (h : w.ownsRow B e size v n xs) (hb : B' ≤ B) : w.ownsRow B' e size v n xs := by
  refine ⟨h.1, ?_⟩
  rcases h.2 with h0 | ⟨g, cap, cur, h1, h2, h3⟩
  · exact .inl h0
  · exact .inr ⟨g, cap, cur, h1, by omega, h3⟩
namespace tree
/-- A place as a pointer. -/
def ptr (it : It) : Value := .pointer (some ⟨it.1, it.2.1, none⟩)
def sizesI : List It → Nat
  | [] => 0
  | it :: r => size it.2.2 + sizesI r
theorem sizesI_append : ∀ a b : List It, sizesI (a ++ b) = sizesI a + sizesI b
  | [], b => by simp [sizesI]
  | x :: r, b => by rw [List.cons_append, sizesI, sizesI, sizesI_append r b]; omega
theorem size_pos (t : T) : 1 ≤ size t := by cases t; rw [size]; omega
theorem sizesI_length : ∀ a : List It, a.length ≤ sizesI a
  | [] => by simp [sizesI]
  | x :: r => by rw [sizesI, List.length_cons]; have := sizesI_length r; have := size_pos x.2.2; omega
theorem sizesI_kids (g : Nat) (kids : List T) : ∀ n, n ≤ kids.length → sizesI (kidIts g kids n) = sizes (kids.take n)
  | 0, _ => by simp [kidIts, sizesI, sizes]
  | n + 1, h => by
    have hx : kids.getD n zero = kids[n] := by simp [List.getD, show n < kids.length by omega]
    rw [kidIts, sizesI, sizesI_kids g kids n (by omega), List.take_succ_eq_append_getElem (by omega), sizes_append, hx]
    simp only [sizes]
    omega
theorem kidIts_length (g : Nat) (kids : List T) : ∀ n, (kidIts g kids n).length = n
  | 0 => rfl
  | n + 1 => by rw [kidIts, List.length_cons, kidIts_length g kids n]
def Apart (a b : It) : Prop := a.1 = b.1 → a.2.1 + 6 ≤ b.2.1 ∨ b.2.1 + 6 ≤ a.2.1
/-- The place holds the tree as it lay when the call began. -/
def Holds (w wr : World) (f : Nat) (it : It) : Prop := ∃ cur e us, wr.heap[it.1]? = some (.cells cur e (0, 0)) ∧ us.length = 6 ∧ (∀ j u, us[j]? = some u → cur[it.2.1 + j]? = some u) ∧ LiesS w f us (row it.2.2)

structure CpS (w w1 : World) (f : Nat) (t : T) (sb1 : Option Nat) (eP : TypeId) (resT : TypeId) (zr : Array Value) (r : Value) (wr : World) (todo : List It) : Prop where
  own : wr.ownsRow (w.heap.size + 2) eP 1 r todo.length ((todo.map ptr).reverse)
  it : ∀ it ∈ todo, w.heap.size ≤ it.1 ∧ it.1 ≠ w.heap.size + 1 ∧ r.ownBlock ≠ some it.1 ∧ Holds w wr f it
  apart : todo.Pairwise Apart
  bel : Below w.heap.size w wr
  res : wr.heap[w.heap.size + 1]? = some (.cells zr resT (0, 0))
  bd : sizesI todo ≤ size t
  sz : w.heap.size + 3 ≤ wr.heap.size
  wt : ∀ it ∈ todo, weight it.2.2 ≤ 1048576
  wand : ∀ w', Fin wr w' r.ownBlock todo w.heap.size → Fin w1 w' sb1 [(w.heap.size, 0, t)] w.heap.size

/-- While the kids are pushed. -/
structure InS (w : World) (W6 : World) (gs gk : Nat) (kids : List T) (todo : List It) (eP : TypeId) (j : Nat) (r : Value) (wD : World) : Prop where
  own : wD.ownsRow (w.heap.size + 2) eP 1 r (j + todo.length) (((kidIts gk kids j ++ todo).map ptr).reverse)
  os : wD.os = W6.os
  tape : wD.tape = W6.tape
  output : wD.output = W6.output
  size : W6.heap.size ≤ wD.heap.size
  keep : ∀ b, b < W6.heap.size → b ≠ gs → wD.heap[b]? = W6.heap[b]?
  ob : r.ownBlock = some gs ∨ ∃ b, r.ownBlock = some b ∧ W6.heap.size ≤ b
end tree
end Go.Proofs.Ytangdmjdjiddcaa
namespace Go.Proofs.Ytangdmjdjiddcaa.tree
open Go Go.RowKit
set_option linter.unusedVariables false

/-- Six of the cells of kids. -/
theorem kid_cells {w : World} {f : Nat} {xs : List Value} {kids : List T} (h : LiesS w f xs (rows kids)) {i : Nat} (hi : i < kids.length) :
    ∃ us : List Value, us.length = 6 ∧ (∀ j u, us[j]? = some u → xs[i * 6 + j]? = some u) ∧ LiesS w f us (row kids[i]) := by
  have hl := h.1
  rw [rows_length] at hl
  have hb : ∀ j, j < 6 → i * 6 + j < xs.length := fun j hj => by omega
  refine ⟨(xs.drop (i * 6)).take 6, by rw [List.length_take, List.length_drop]; omega, fun j u hu => ?_, ⟨by rw [List.length_take, List.length_drop, row_length]; omega, fun j u d hu hd => ?_⟩⟩
  · have hj : j < 6 := by have := (List.getElem?_eq_some_iff.1 hu).1; rw [List.length_take] at this; omega
    rw [List.getElem?_take_of_lt hj, List.getElem?_drop] at hu
    exact hu
  · have hj : j < 6 := by have := (List.getElem?_eq_some_iff.1 hd).1; rw [row_length] at this; exact this
    rw [List.getElem?_take_of_lt hj, List.getElem?_drop] at hu
    exact h.2 (i * 6 + j) u d hu (by rw [rows_get kids i j hi hj]; exact hd)

theorem kidIts_mem {g : Nat} {kids : List T} : ∀ {n : Nat} {it : It}, n ≤ kids.length → it ∈ kidIts g kids n → ∃ i, ∃ h : i < kids.length, i < n ∧ it = (g, i * 6, kids[i])
  | n + 1, it, hn, h => by
    rcases List.mem_cons.1 h with rfl | h
    · exact ⟨n, by omega, by omega, by simp [List.getD, show n < kids.length by omega]⟩
    · obtain ⟨i, h1, h2, h3⟩ := kidIts_mem (by omega) h
      exact ⟨i, h1, by omega, h3⟩
theorem kidIts_apart (g : Nat) (kids : List T) : ∀ n, n ≤ kids.length → (kidIts g kids n).Pairwise Apart
  | 0, _ => List.Pairwise.nil
  | n + 1, hn => by
    refine List.Pairwise.cons (fun it hit _ => ?_) (kidIts_apart g kids n (by omega))
    obtain ⟨i, _, h2, rfl⟩ := kidIts_mem (by omega) hit
    right
    show i * 6 + 6 ≤ n * 6
    omega

theorem below_of_ne {w wr W2 : World} {B : Nat} (h : Below B w wr) (hk : Below wr.heap.size wr W2) (hB : B ≤ wr.heap.size) : Below B w W2 := h.trans (hk.mono hB)

/-- A round: the top's two lists are made anew (vk, v2), its kids pushed. -/
theorem cp_step {w w1 wr W2 W3 W5 W6 wD : World} {f : Nat} {t : T} {sb1 : Option Nat} {eP eS eT resT : TypeId} {zr : Array Value} {gs cap g o : Nat} {k : Int} {fl : Bool} {n : Int} {s : ByteArray} {ks : List ByteArray} {kids : List T} {todo : List It} {vk v2 r' : Value} {xs : List Value} {u4 u5 : Value} {cur : Array Value} {e : TypeId}
    (hC : CpS w w1 f t sb1 eP resT zr (.slice (some ⟨gs, 0, none⟩) (todo.length + 1) cap) wr ((g, o, .mk k fl n s ks kids) :: todo))
    (hg : wr.heap[g]? = some (.cells cur e (0, 0))) (hus : ∀ j u, [Value.int .i64 k, .bool fl, .int .i64 n, .string s, u4, u5][j]? = some u → cur[o + j]? = some u)
    (wk : (Lit.int .i64 k).wf = true) (wn : (Lit.int .i64 n).wf = true) (ws : s.size ≤ maxLen) (wks : ∀ x ∈ ks, x.size ≤ maxLen)
    (hb2 : Below wr.heap.size wr W2) (hks : W2.ownsRow wr.heap.size eS 1 vk ks.length (scells ks)) (hW3 : W3 = W2.setCell ⟨g, o + 4, none⟩ vk)
    (hb5 : Below W3.heap.size W3 W5) (hkids : W5.ownsRow W3.heap.size eT 6 v2 kids.length xs) (hxs : LiesS w f xs (rows kids)) (hW6 : W6 = W5.setCell ⟨g, o + 5, none⟩ v2)
    {gk : Nat} (hgk : ∀ b, v2.ownBlock = some b → b = gk) (hgk0 : kids ≠ [] → v2.ownBlock = some gk)
    (hI : InS w W6 gs gk kids todo eP kids.length r' wD) :
    CpS w w1 f t sb1 eP resT zr r' wD (kidIts gk kids kids.length ++ todo) := by
  obtain ⟨hg1, hg2, hg3, _⟩ := hC.it _ List.mem_cons_self
  have hglt := heap_lt hg
  have hgsg : gs ≠ g := fun e => hg3 (by rw [e]; rfl)
  obtain ⟨hgs1, hgs2⟩ := hC.own.lt gs rfl
  have hs3 : W3.heap.size = W2.heap.size := by rw [hW3]; simp
  have hs6 : W6.heap.size = W5.heap.size := by rw [hW6]; simp
  have hs23 := hb2.size
  have hs35 := hb5.size
  -- blocks that lay, through the round
  have hold : ∀ b, b < wr.heap.size → b ≠ g → W6.heap[b]? = wr.heap[b]? := fun b hb hne => by
    rw [hW6, Below.heap_setCell _ _ _ _ hne, hb5.block b (by omega), hW3, Below.heap_setCell _ _ _ _ hne, hb2.block b hb]
  have hg6 : W6.heap[g]? = some (.cells ((cur.setIfInBounds (o + 4) vk).setIfInBounds (o + 5) v2) e (0, 0)) := by
    rw [hW6]
    refine heap_setCell_same _ _ _ _ _ _ ?_
    rw [hb5.block g (by omega), hW3]
    refine heap_setCell_same _ _ _ _ _ _ ?_
    rw [hb2.block g hglt]
    exact hg
  have hbelow6 : Below w.heap.size wr W6 := by
    rw [hW6]
    refine Below.setCell ?_ (p := ⟨g, o + 5, none⟩) hg1 _
    refine Below.trans (Below.setCell (hb2.mono hC.bel.size) (p := ⟨g, o + 4, none⟩) hg1 vk) ?_
    rw [← hW3]
    exact hb5.mono (by have := hC.bel.size; omega)
  have hks6 : W6.ownsRow wr.heap.size eS 1 vk ks.length (scells ks) := by
    rw [hW6]
    refine ownsRow_setCell_below (own_below' (w := W3) ?_ hb5) (a := ⟨g, o + 5, none⟩) hglt v2
    rw [hW3]
    exact ownsRow_setCell_below hks (a := ⟨g, o + 4, none⟩) hglt vk
  have hkids6 : W6.ownsRow W3.heap.size eT 6 v2 kids.length xs := by
    rw [hW6]
    exact ownsRow_setCell_below hkids (a := ⟨g, o + 5, none⟩) (by show g < _; omega) v2
  have hkids6' : W6.ownsRow wr.heap.size eT 6 v2 kids.length xs := own_base hkids6 (by omega)
  -- to the end of the pushes
  have toD : ∀ {eX : TypeId} {size : Nat} {v : Value} {m : Nat} {ys : List Value}, W6.ownsRow wr.heap.size eX size v m ys → wD.ownsRow wr.heap.size eX size v m ys := fun {eX size v m ys} h => by
    refine ⟨h.1, ?_⟩
    rcases h.2 with h0 | ⟨b, cap, c, h1, h2, h3, h4⟩
    · exact .inl h0
    · exact .inr ⟨b, cap, c, h1, h2, (hI.keep b (heap_lt h3) (by omega)).trans h3, h4⟩
  have hvkb : ∀ b, vk.ownBlock = some b → b < W3.heap.size := fun b hb => by
    have := (hks.lt b hb).2
    omega
  have hv2b : ∀ b, v2.ownBlock = some b → W3.heap.size ≤ b ∧ b < W6.heap.size := fun b hb => hkids6.lt b hb
  have hob : ∀ b, b < W6.heap.size → b ≠ gs → r'.ownBlock ≠ some b := fun b hb hne e => by
    rcases hI.ob with h | ⟨b', h, h'⟩
    · rw [h] at e; injection e with e; exact hne e.symm
    · rw [h] at e; injection e with e; omega
  have hob6 : ∀ b, r'.ownBlock = some b → b ≠ g := fun b hb e => by
    subst e
    exact hob b (by omega) (fun e => hgsg e.symm) hb
  obtain ⟨hap, happ⟩ := List.pairwise_cons.1 hC.apart
  have hlow : ∀ it ∈ todo, it.1 < wr.heap.size := fun it hit => by
    obtain ⟨_, _, _, c, e', us, h1, _⟩ := hC.it it (List.mem_cons_of_mem _ hit)
    exact heap_lt h1
  refine ⟨?_, fun it hit => ?_, ?_, ?_, ?_, ?_, ?_, fun it hit => ?_, fun w' hw' => hC.wand w' ?_⟩
  · have h := hI.own
    rw [List.length_append, kidIts_length]
    exact h
  · rcases List.mem_append.1 hit with hit | hit
    · obtain ⟨i, hi, _, rfl⟩ := kidIts_mem (Nat.le_refl _) hit
      have hne : kids ≠ [] := fun e => by rw [e] at hi; simp at hi
      have hb := hgk0 hne
      obtain ⟨h1, h2⟩ := hv2b gk hb
      have hws := hC.bel.size
      have hsz := hC.sz
      refine ⟨by show w.heap.size ≤ gk; omega, by show gk ≠ _; omega, hob gk h2 (by omega), ?_⟩
      obtain ⟨cap', c', rfl, h3, h4, h5, h6, h7, h8⟩ := own_block hkids6 hb
      obtain ⟨us, hu1, hu2, hu3⟩ := kid_cells hxs hi
      refine ⟨c', eT, us, (hI.keep gk h2 (by omega)).trans h4, hu1, fun j u hu => ?_, hu3⟩
      have hj := hu2 j u hu
      rw [← h8, List.getElem?_take] at hj
      split at hj
      · simpa using hj
      · cases hj
    · obtain ⟨h1, h2, h3, c, e', us, h4, h5, h6, h7⟩ := hC.it it (List.mem_cons_of_mem _ hit)
      have hlt := hlow it hit
      have hgsi : it.1 ≠ gs := fun e => h3 (by rw [e]; rfl)
      refine ⟨h1, h2, hob it.1 (by omega) hgsi, ?_⟩
      have hk := hI.keep it.1 (by omega) hgsi
      by_cases hig : it.1 = g
      · have ha := hap it hit hig.symm
        rw [hig] at hk h4
        rw [hg] at h4
        injection h4 with h4
        injection h4 with e1 e2 e3
        subst e1 e2
        refine ⟨_, _, us, by rw [hig]; exact hk.trans hg6, h5, fun j u hu => ?_, h7⟩
        have hj : j < 6 := by have := (List.getElem?_eq_some_iff.1 hu).1; omega
        simp only at ha
        rw [Array.getElem?_setIfInBounds_ne (by omega), Array.getElem?_setIfInBounds_ne (by omega)]
        exact h6 j u hu
      · exact ⟨c, e', us, (hk.trans (hold it.1 hlt hig)).trans h4, h5, h6, h7⟩
  · refine List.pairwise_append.2 ⟨kidIts_apart gk kids _ (Nat.le_refl _), happ, fun a ha b hb e => ?_⟩
    obtain ⟨i, hi, _, rfl⟩ := kidIts_mem (Nat.le_refl _) ha
    have hne : kids ≠ [] := fun e => by rw [e] at hi; simp at hi
    have h1 := (hv2b gk (hgk0 hne)).1
    have h2 := hlow b hb
    have h3 : gk = b.1 := e
    omega
  · refine (hC.bel.trans hbelow6).trans ⟨hI.os, hI.tape, hI.output, hI.size, fun b hb => hI.keep b ?_ ?_⟩
    · have := hC.bel.size; omega
    · omega
  · rw [hI.keep _ (by have := hC.sz; omega) (by omega), hold _ (by have := hC.sz; omega) (fun e => hg2 e.symm)]
    exact hC.res
  · rw [sizesI_append, sizesI_kids gk kids _ (Nat.le_refl _), List.take_of_length_le (Nat.le_refl _)]
    have h := hC.bd
    rw [sizesI] at h
    simp only [size] at h
    omega
  · have h1 := hC.sz
    have h2 := hI.size
    omega
  · rcases List.mem_append.1 hit with hit | hit
    · obtain ⟨i, hi, _, rfl⟩ := kidIts_mem (Nat.le_refl _) hit
      have h1 := hC.wt _ List.mem_cons_self
      have h2 := weights_le_mem (List.getElem_mem hi)
      simp only [weight] at h1
      show weight kids[i] ≤ _
      omega
    · exact hC.wt it (List.mem_cons_of_mem _ hit)
  · refine fin_step (sb' := r'.ownBlock) (e1 := eS) (e2 := eT) (xs := xs) hC.bel.size (Nat.le_trans (by omega) hI.size) (hI.os.trans hbelow6.os) (hI.tape.trans hbelow6.tape) (hI.output.trans hbelow6.output)
      (fun b hb hne hsb => ?_) hg ((hI.keep g (by omega) (fun e => hgsg e.symm)).trans hg6) (fun e => hgsg (by injection e with e; exact e.symm)) (hus 0 _ rfl) (hus 1 _ rfl) (hus 2 _ rfl) (hus 3 _ rfl) ?_ wk wn ws wks (toD hks6) (fun b hb => ⟨?_, ?_⟩) (toD hkids6') (fun b hb => ?_) ?_ (fun it hit => ⟨hlow it hit, fun hig => ?_⟩) hgk hgk0 hw'
    · have hbgs : b ≠ gs := fun e => hsb (by rw [e]; rfl)
      rw [hI.keep b (by omega) hbgs, hold b hb hne]
    · exact (Array.getElem?_eq_some_iff.1 (hus 5 _ rfl)).1
    · have h1 := (hks.lt b hb).1
      have h2 := hvkb b hb
      exact fun e => hob b (by omega) (by omega) e.symm
    · intro e
      have h1 := (hv2b b e).1
      have h2 := hvkb b hb
      omega
    · have h1 := hv2b b hb
      exact fun e => hob b h1.2 (by omega) e.symm
    · rcases hI.ob with h | ⟨b, h, h'⟩
      · exact .inl h
      · exact .inr ⟨b, h, by omega⟩
    · have ha := hap it hit hig.symm
      simp only at ha
      omega
theorem rd_one (w : World) (u : Value) (e : TypeId) : Rd (w.alloc (.cells #[u] e)) (some ⟨w.heap.size, 0, none⟩) 1 [u] := by
  refine ⟨rfl, fun _ => ⟨w.heap.size, 0, rfl, by simp, fun j hj u' hu => ?_⟩⟩
  rw [cell_of_row _ w.heap.size (0 + j) #[u] e (0, 0) (heap_alloc_new w _)]
  simpa using hu
/-- One kid is pushed. -/
theorem in_step {w W6 wD W8 : World} {gs gk : Nat} {kids : List T} {todo : List It} {eP : TypeId} {j : Nat} {r r' : Value} {o : Obj} (h : InS w W6 gs gk kids todo eP j r wD)
    (hown : W8.ownsRow (w.heap.size + 2) eP 1 r' (j + todo.length + 1) (((kidIts gk kids j ++ todo).map ptr).reverse ++ [.pointer (some ⟨gk, j * 6, none⟩)])) (hgr : (wD.alloc o).grownBy W8 r.ownBlock) (hat : r'.ownBlock = r.ownBlock ∨ r'.ownBlock = some (wD.alloc o).heap.size) :
    InS w W6 gs gk kids todo eP (j + 1) r' W8 := by
  have hs := h.size
  have hsa : (wD.alloc o).heap.size = wD.heap.size + 1 := by simp
  refine ⟨?_, hgr.os.trans h.os, hgr.tape.trans h.tape, hgr.output.trans h.output, by have := hgr.size; omega, fun b hb hne => ?_, ?_⟩
  · have e1 : ((kidIts gk kids (j + 1) ++ todo).map ptr).reverse = ((kidIts gk kids j ++ todo).map ptr).reverse ++ [.pointer (some ⟨gk, j * 6, none⟩)] := by
      rw [kidIts, List.cons_append, List.map_cons, List.reverse_cons]
      rfl
    rw [e1, show j + 1 + todo.length = j + todo.length + 1 by omega]
    exact hown
  · rw [hgr.block b (by omega) (fun e => ?_), Below.heap_alloc _ _ _ (by omega)]
    · exact h.keep b hb hne
    · rcases h.ob with h1 | ⟨b', h1, h2⟩
      · rw [h1] at e; injection e with e; exact hne e
      · rw [h1] at e; injection e with e; omega
  · rcases hat with h1 | h1
    · rw [h1]; exact h.ob
    · exact .inr ⟨_, h1, by omega⟩
end Go.Proofs.Ytangdmjdjiddcaa.tree
namespace Go.Proofs.Ytangdmjdjiddcaa
open Go Go.RowKit
set_option linter.unusedVariables false

theorem flat_get' {α β : Type} {f : α → List β} {sz : Nat} (hf : ∀ a, (f a).length = sz) : ∀ (l : List α) (i j : Nat) (a : α), l[i]? = some a → j < sz → (l.flatMap f)[i * sz + j]? = (f a)[j]?
  | [], i, j, a, h, _ => by simp at h
  | x :: l, 0, j, a, h, hj => by
    simp at h
    subst h
    rw [List.flatMap_cons, List.getElem?_append_left (by rw [hf]; omega)]
    simp
  | x :: l, i + 1, j, a, h, hj => by
    rw [List.flatMap_cons, List.getElem?_append_right (by rw [hf, Nat.add_mul]; omega), hf, Nat.add_mul, show i * sz + 1 * sz + j - sz = i * sz + j by omega]
    exact flat_get' hf l i j a (by simpa using h) hj
theorem flat_length' {α β : Type} {f : α → List β} {sz : Nat} (hf : ∀ a, (f a).length = sz) : ∀ l : List α, (l.flatMap f).length = l.length * sz
  | [] => by simp
  | x :: l => by rw [List.flatMap_cons, List.length_append, hf, flat_length' hf l, List.length_cons, Nat.add_mul]; omega
/-- The elements of a slice of structs, each as its cells. -/
def ElsAt {α : Type} (row : α → List C) (w : World) (f : Nat) (A : Option Addr) (l : List α) (k : Nat) : Prop :=
  0 < l.length → ∃ g o, A = some ⟨g, o, none⟩ ∧ g < w.heap.size ∧ ∀ (j : Nat) (x : α), l[j]? = some x → ∃ us : List Value, us.length = k ∧ (∀ i u, us[i]? = some u → w.cell? ⟨g, o + j * k + i, none⟩ = some u) ∧ LiesS w f us (row x)
theorem ElsAt.kept {α : Type} {row : α → List C} {w w' : World} {f : Nat} {A : Option Addr} {l : List α} {k : Nat} (h : ElsAt row w f A l k) (hk : ∀ g, g < w.heap.size → w'.heap[g]? = w.heap[g]?) : ElsAt row w' f A l k := by
  intro hn
  obtain ⟨g, o, rfl, hg, hc⟩ := h hn
  have e := hk g hg
  have hs : g < w'.heap.size := by
    rw [Array.getElem?_eq_getElem hg] at e
    exact heap_lt e
  refine ⟨g, o, rfl, hs, fun j x hx => ?_⟩
  obtain ⟨us, h1, h2, h3⟩ := hc j x hx
  exact ⟨us, h1, fun i u hu => (World.cell?_of_block e).trans (h2 i u hu), h3.kept hk⟩
theorem ElsAt.below {α : Type} {row : α → List C} {w w' : World} {f : Nat} {A : Option Addr} {l : List α} {k : Nat} (h : ElsAt row w f A l k) (hb : Below w.heap.size w w') : ElsAt row w' f A l k := h.kept hb.block
theorem els_of {α : Type} {row : α → List C} {k : Nat} (hk : ∀ x, (row x).length = k) {w : World} {f : Nat} {v : Value} {l : List α} (h : Lies w f v (.sl k l.length (l.flatMap row))) :
    ∃ A c, v = .slice A l.length c ∧ l.length ≤ c ∧ c ≤ maxLen ∧ ∃ f', f = f' + 1 ∧ ElsAt row w f' A l k := by
  obtain ⟨A, c, rfl, h1, h2, _, f', rfl, h3⟩ := h.sl
  refine ⟨A, c, rfl, h1, h2, f', rfl, fun hn => ?_⟩
  obtain ⟨g, o, rfl, hg, hc⟩ := h3 hn
  refine ⟨g, o, rfl, hg, fun j x hx => ?_⟩
  have hone : ∀ i, i < k → ∃ u : Value, w.cell? ⟨g, o + (j * k + i), none⟩ = some u ∧ ∃ d, (row x)[i]? = some d ∧ Lies w f' u d := fun i hi => by
    have hd : i < (row x).length := by rw [hk]; exact hi
    obtain ⟨u, hu, hl⟩ := hc (j * k + i) (row x)[i] (by rw [flat_get' hk l j i x hx hi]; exact List.getElem?_eq_getElem hd)
    exact ⟨u, hu, _, List.getElem?_eq_getElem hd, hl⟩
  obtain ⟨q, hq⟩ := Go.Deep.choose_lt hone
  refine ⟨(List.range k).map q, by simp, fun i u hu => ?_, by simp [hk], fun m u d hu hd => ?_⟩
  · have hi : i < k := by have := (List.getElem?_eq_some_iff.1 hu).1; simpa using this
    simp [hi] at hu
    subst hu
    rw [Nat.add_assoc]
    exact (hq i hi).1
  · have hi : m < k := by have := (List.getElem?_eq_some_iff.1 hu).1; simpa using this
    simp [hi] at hu
    subst hu
    obtain ⟨_, d', e, hl⟩ := hq m hi
    rw [e] at hd
    injection hd with hd
    exact hd ▸ hl
/-- One element, its place known. -/
theorem ElsAt.get {α : Type} {row : α → List C} {w : World} {f : Nat} {A : Option Addr} {l : List α} {k : Nat} (h : ElsAt row w f A l k) {j : Nat} (hj : j < l.length) : ∃ g o, A = some ⟨g, o, none⟩ ∧ g < w.heap.size ∧ ∃ us : List Value, us.length = k ∧ (∀ i u, us[i]? = some u → w.cell? ⟨g, o + j * k + i, none⟩ = some u) ∧ LiesS w f us (row l[j]) := by
  obtain ⟨g, o, hA, hg, hc⟩ := h (by omega)
  exact ⟨g, o, hA, hg, hc j _ (List.getElem?_eq_getElem hj)⟩

/-! What is left of so many. -/
/-- What is left of so many behind x: -1 if they do not do. -/
def cutN (left : Int) (x : Nat) : Int := if left < x then -1 else left - x
theorem cutN_no {left : Int} {x : Nat} (h : left < x) : cutN left x = -1 := by unfold cutN; rw [if_pos h]
theorem cutN_yes {left : Int} {x : Nat} (h : ¬ left < x) : cutN left x = left - x := by unfold cutN; rw [if_neg h]
def LeftN (l : Int) : Prop := 0 ≤ l ∧ l ≤ 1048576
def wsum {α : Type} (wt : α → Nat) (l : List α) : Nat := (l.map wt).sum
theorem wsum_append {α : Type} (wt : α → Nat) (a b : List α) : wsum wt (a ++ b) = wsum wt a + wsum wt b := by simp [wsum]
theorem wsum_take {α : Type} (wt : α → Nat) {l : List α} {j : Nat} (h : j < l.length) : wsum wt (l.take (j + 1)) = wsum wt (l.take j) + wt l[j] := by
  rw [List.take_succ_eq_append_getElem h, wsum_append]; simp [wsum]
theorem wsum_all {α : Type} (wt : α → Nat) (l : List α) (j : Nat) : wsum wt l = wsum wt (l.take j) + wsum wt (l.drop j) := by
  rw [← wsum_append, List.take_append_drop]
theorem wsum_mem {α : Type} (wt : α → Nat) {l : List α} {j : Nat} (h : j < l.length) : wt l[j] ≤ wsum wt l := by
  have h1 := wsum_all wt l (j + 1)
  rw [wsum_take wt h] at h1
  omega

/-! The law's marks on a list. -/
def mks {α : Type} (mk : α → Int → α) (cost : α → Nat) : List α → Int → List α
  | [], _ => []
  | x :: r, k => mk x k :: mks mk cost r (k + cost x)
theorem mks_length {α : Type} (mk : α → Int → α) (cost : α → Nat) : ∀ (l : List α) (k : Int), (mks mk cost l k).length = l.length
  | [], _ => rfl
  | x :: r, k => by rw [mks, List.length_cons, List.length_cons, mks_length mk cost r]
theorem mks_append {α : Type} (mk : α → Int → α) (cost : α → Nat) : ∀ (a b : List α) (k : Int), mks mk cost (a ++ b) k = mks mk cost a k ++ mks mk cost b (k + wsum cost a)
  | [], b, k => by simp [mks, wsum]
  | x :: r, b, k => by
    rw [List.cons_append, mks, mks, mks_append mk cost r b, List.cons_append]
    have : (k + (cost x : Int)) + (wsum cost r : Int) = k + (wsum cost (x :: r) : Int) := by simp [wsum]; omega
    rw [this]
theorem mks_next {α : Type} (mk : α → Int → α) (cost : α → Nat) {l : List α} {j : Nat} (h : j < l.length) (k : Int) : mks mk cost (l.take (j + 1)) k ++ l.drop (j + 1) = mks mk cost (l.take j) k ++ (mk l[j] (k + wsum cost (l.take j)) :: l.drop (j + 1)) := by
  rw [List.take_succ_eq_append_getElem h, mks_append]
  simp [mks]
theorem mks_get {α : Type} (mk : α → Int → α) (cost : α → Nat) {l : List α} {j : Nat} (h : j < l.length) (k : Int) : (mks mk cost l k)[j]? = some (mk l[j] (k + wsum cost (l.take j))) := by
  have e : l = l.take j ++ (l[j] :: l.drop (j + 1)) := by rw [← List.drop_eq_getElem_cons h, List.take_append_drop]
  have e2 : mks mk cost l k = mks mk cost (l.take j) k ++ (mk l[j] (k + wsum cost (l.take j)) :: mks mk cost (l.drop (j + 1)) (k + wsum cost (l.take j) + cost l[j])) := by
    conv => lhs; rw [e]
    rw [mks_append, mks]
  rw [e2, List.getElem?_append_right (by rw [mks_length, List.length_take]; omega), mks_length, List.length_take, show j - min j l.length = 0 by omega]
  rfl
end Go.Proofs.Ytangdmjdjiddcaa
namespace Go.Proofs.Ytangdmjdjiddcaa
open Go Go.RowKit
set_option linter.unusedVariables false

/-- A slice of m elements of k cells reads so. -/
def RdK (w : World) (A : Option Addr) (m k : Nat) (news : List Value) : Prop :=
  news.length = m * k ∧ (0 < m → ∃ g o, A = some ⟨g, o, none⟩ ∧ g < w.heap.size ∧ ∀ j u, news[j]? = some u → w.cell? ⟨g, o + j, none⟩ = some u)
theorem RdK.below {w w' : World} {A : Option Addr} {m k : Nat} {news : List Value} (h : RdK w A m k news) (hb : Below w.heap.size w w') : RdK w' A m k news := by
  refine ⟨h.1, fun hm => ?_⟩
  obtain ⟨g, o, hA, hg, hc⟩ := h.2 hm
  exact ⟨g, o, hA, Nat.lt_of_lt_of_le hg hb.size, fun j u hu => (World.cell?_of_block (hb.block g hg)).trans (hc j u hu)⟩
theorem run_append_rdk {P : Program} {w : World} (base : Nat) (t ty e : TypeId) (i : TypeInfo) (z : Value) (size bytes : Nat) (ht : P.underlying t = some (.slice e)) (hi : P.info? e = some i) (hz : i.zero = some z)
    (hsize : i.size = size) (hby : i.bytes = bytes) (hzs : z.cells.size = size) (hsz : 0 < size) (v : Value) (n : Nat) (xs : List Value) (hown : w.ownsRow base e size v n xs)
    (A : Option Addr) (m c : Nat) (news : List Value) (hr : RdK w A m size news) (h1 : ∀ u ∈ news, u.oneCell' = true)
    (h63 : n + m ≤ maxLen) (hbytes : (n + m) * bytes ≤ 140737488355328) (hbase : base ≤ w.heap.size) :
    ∃ v' w', (Builtin.append_ #[t, t] ty #[v, .slice A m c]).run P w = .ok v' w' ∧ w'.ownsRow base e size v' (n + m) (xs ++ news) ∧ w.grownBy w' v.ownBlock ∧ (v'.ownBlock = v.ownBlock ∨ v'.ownBlock = some w.heap.size) := by
  rcases Nat.eq_zero_or_pos m with hm | hm
  · subst hm
    have hn : news = [] := List.eq_nil_of_length_eq_zero (by rw [hr.1]; simp)
    subst hn
    cases A with
    | some ad =>
      obtain ⟨v', w', r0, r1, r2, _, r3⟩ := run_append_own_at (P := P) w base t ty e i z size bytes ht hi hz hsize hby hzs hsz v n xs hown ad 0 c [] (by simp) (fun j u hu => by simp at hu) h1 h63 hbytes hbase
      exact ⟨v', w', r0, r1, r2, r3⟩
    | none =>
      refine ⟨v, w, ?_, by simpa using hown, World.grownBy.refl _ _, .inl rfl⟩
      subst hsize
      rcases hown.2 with ⟨rfl, rfl⟩ | ⟨g, cap, cur, rfl, _, _, hnc, _⟩
      · simp [Builtin.append_, run_underlying ht, sizeOf, typeInfo, hi, Builtin.lenOf, Builtin.firstCells]
      · simp [Builtin.append_, run_underlying ht, sizeOf, typeInfo, hi, Builtin.lenOf, Builtin.firstCells, hnc, storeCells]
  · obtain ⟨g, o, rfl, hg, hc⟩ := hr.2 hm
    obtain ⟨v', w', r0, r1, r2, _, r3⟩ := run_append_own_at (P := P) w base t ty e i z size bytes ht hi hz hsize hby hzs hsz v n xs hown ⟨g, o, none⟩ m c news hr.1 (fun j u hu => by rw [Addr.add_lit]; exact hc j u hu) h1 h63 hbytes hbase
    exact ⟨v', w', r0, r1, r2, r3⟩
/-- append(v, x...) of a slice x that reads, nil or not. -/
theorem wpList_append_rdk {P : Program} {w : World} {ops : Array Oper} {rest : List Oper} {o : Oper} {a : Act} {Q : Exit → Act → World → Prop} (hgd : o.guard = none) (s x : Operand) (t : TypeId)
    (ho : o.op = .call { callee := .builtin .append, args := #[s, x], argTypes := #[t, t] })
    (base : Nat) (e : TypeId) (i : TypeInfo) (z : Value) (size bytes : Nat) (ht : P.underlying t = some (.slice e)) (hi : P.info? e = some i) (hz : i.zero = some z)
    (hsize : i.size = size) (hby : i.bytes = bytes) (hzs : z.cells.size = size) (hsz : 0 < size)
    (v : Value) (n : Nat) (xs : List Value) (hs : a.eval s = v) (hown : w.ownsRow base e size v n xs)
    (A : Option Addr) (m c : Nat) (news : List Value) (hx : a.eval x = .slice A m c) (hr : RdK w A m size news) (h1 : ∀ u ∈ news, u.oneCell' = true)
    (h63 : n + m ≤ maxLen) (hbytes : (n + m) * bytes ≤ 140737488355328) (hbase : base ≤ w.heap.size)
    (h : ∀ v' w', w'.ownsRow base e size v' (n + m) (xs ++ news) → w.grownBy w' v.ownBlock → (v'.ownBlock = v.ownBlock ∨ v'.ownBlock = some w.heap.size) → wpList P ops Q rest (a.put o.dst v') w') :
    wpList P ops Q (o :: rest) a w := by
  refine wpList_plain hgd fun K hK => ?_
  obtain ⟨v', w', hr', h2, h3, h5⟩ := run_append_rdk (P := P) base t o.type e i z size bytes ht hi hz hsize hby hzs hsz v n xs hown A m c news hr h1 h63 hbytes hbase
  unfold Oper.wp execOp
  simp only [ho, resolve, invoke, builtin, Sem.run_bind, Sem.run_pure, Result.andThen_ok, List.map_toArray, List.map_cons, List.map_nil, hs, hx, hr']
  exact hK _ _ (h v' w' h2 h3 h5)
/-- As one step of a region that draws its order. -/
theorem step_append_rdk {P : Program} {ops : Array Oper} {o : Oper} {a : Act} {w : World} {K : Act → World → Prop} {Q : Exit → Act → World → Prop} {E : Prop}
    (hg : o.guard = none) (s x : Operand) (t : TypeId) (hop : o.op = Op.call { callee := Callee.builtin Builtin.append, args := #[s, x], argTypes := #[t, t] })
    (base : Nat) (e : TypeId) (i : TypeInfo) (z : Value) (size bytes : Nat) (ht : P.underlying t = some (.slice e)) (hi : P.info? e = some i) (hz : i.zero = some z)
    (hsize : i.size = size) (hby : i.bytes = bytes) (hzs : z.cells.size = size) (hsz : 0 < size)
    (v : Value) (n : Nat) (xs : List Value) (hs : a.eval s = v) (hown : w.ownsRow base e size v n xs)
    (A : Option Addr) (m c : Nat) (news : List Value) (hx : a.eval x = .slice A m c) (hr : RdK w A m size news) (h1 : ∀ u ∈ news, u.oneCell' = true)
    (h63 : n + m ≤ maxLen) (hbytes : (n + m) * bytes ≤ 140737488355328) (hbase : base ≤ w.heap.size)
    (hK : ∀ v' w', w'.ownsRow base e size v' (n + m) (xs ++ news) → w.grownBy w' v.ownBlock → (v'.ownBlock = v.ownBlock ∨ v'.ownBlock = some w.heap.size) → K (a.put o.dst v') w') :
    if Region.wanted o (yielded ops a.tmps) = true then Oper.wp P o a w K Q else E := by
  have hw : Region.wanted o (yielded ops a.tmps) = true := by simp [Region.wanted, hg]
  rw [if_pos hw]
  obtain ⟨v', w', hrun, r1, r2, r3⟩ := run_append_rdk (P := P) base t o.type e i z size bytes ht hi hz hsize hby hzs hsz v n xs hown A m c news hr h1 h63 hbytes hbase
  unfold Oper.wp
  simp [execOp, hop, resolve, invoke, builtin, hs, hx, hrun, Result.andThen]
  exact hK v' w' r1 r2 r3
/-- The first and the last elements of an own row. -/
theorem own_rdk {w : World} {B : Nat} {e : TypeId} {k g n c : Nat} {xs : List Value} (h : w.ownsRow B e k (.slice (some ⟨g, 0, none⟩) n c) n xs) (p q m : Nat) (hq : q = p * k) (hm : p + m ≤ n) :
    RdK w (some ⟨g, q, none⟩) m k ((xs.drop (p * k)).take (m * k)) := by
  subst hq
  have hl := h.1
  refine ⟨?_, fun _ => ⟨g, p * k, rfl, (h.lt g rfl).2, fun j u hu => ?_⟩⟩
  · rw [List.length_take, List.length_drop, hl, ← Nat.sub_mul]
    exact Nat.min_eq_left (Nat.mul_le_mul_right _ (by omega))
  · have hj : j < m * k := by
      have := (List.getElem?_eq_some_iff.1 hu).1
      rw [List.length_take] at this
      omega
    rw [List.getElem?_take_of_lt hj, List.getElem?_drop] at hu
    have := h.cells (g := g) rfl (p * k + j) u hu
    rwa [Addr.add_lit, Nat.zero_add] at this
theorem RdK.nil (w : World) (A : Option Addr) (k : Nat) : RdK w A 0 k [] := ⟨by simp, fun h => absurd h (by omega)⟩
theorem own_lower' {w : World} {B B' : Nat} {e : TypeId} {size n : Nat} {v : Value} {xs : List Value} (h : w.ownsRow B e size v n xs) (hB : B' ≤ B) : w.ownsRow B' e size v n xs :=
  ⟨h.1, h.2.imp id (fun ⟨g, cap, cur, h1, h2, h3⟩ => ⟨g, cap, cur, h1, Nat.le_trans hB h2, h3⟩)⟩
theorem own_some {w : World} {B : Nat} {e : TypeId} {size n x : Nat} {v : Value} {xs : List Value} (h : w.ownsRow B e size v n xs) (hv : v.ownBlock = some x) : ∃ c, v = .slice (some ⟨x, 0, none⟩) n c ∧ n ≤ c ∧ c ≤ maxLen ∧ B ≤ x := by
  rcases h.2 with ⟨rfl, _⟩ | ⟨g, cap, cur, rfl, hb, _, h1, h2, _⟩
  · cases hv
  · injection hv with hv
    subst hv
    exact ⟨cap, rfl, h1, h2, hb⟩
end Go.Proofs.Ytangdmjdjiddcaa
namespace Go.Proofs.Ytangdmjdjiddcaa.tree
open Go.ChangeShapes Go.WideShapes Go.ChangeAt Go.RowKit
set_option linter.unusedVariables false

set_option maxRecDepth 100000 in
theorem impl_cofStr (A : Option Addr) (n c : Nat) (xs : List Value) (w : World) (hc1 : n ≤ c) (hc2 : c ≤ maxLen) (hr : Rd w A n xs) (hone : ∀ u ∈ xs, u.oneCell' = true) (hn : n ≤ 1048576) :
    Calls Try.prog 29 #[.slice A n c] w fun e w' => ∃ g c', e = .returned (.slice (some ⟨g, 0, none⟩) n c') ∧ w'.ownsRow w.heap.size 9 1 (.slice (some ⟨g, 0, none⟩) n c') n xs ∧ Below w.heap.size w w' := by
  unfold maxLen at hc2
  obtain ⟨i0, hi, hz0, hz1, hz2⟩ := info_parts TryinfoStr'
  have Hr := Lib.hid hr
  have Hone := Lib.hid hone
  have Hlit : Hid ((w.alloc (.cells #[] 9)).ownsRow w.heap.size 9 1 (.slice (some ⟨w.heap.size, 0, none⟩) 0 0) 0 []) :=
    World.ownsRow_lit w #[] 0 (Nat.le_refl _) (by simp [maxLen]) rfl
  have Hb := Lib.hid (fun o => (Below.refl w.heap.size w).alloc (Nat.le_refl _) o)
  have hn2 := Lib.hid hn
  clear hn hr hone
  go_enter Try.func29, Try.ntmps29
  go_wp2_with (first | (at_builtin; refine wpList_append_rd rfl (.tmp 3) (.tmp 4) 24 rfl w.heap.size 9 i0 (.string ⟨#[]⟩) 16 Try.underlying24 hi hz0 hz1 hz2 rfl _ 0 [] rfl Hlit.out A n c xs rfl (Hr.out.below (Hb.out _)) Hone.out (by have := hn2.out; unfold maxLen; omega) (by have := hn2.out; omega) (by simp) ?_; intro v1 w1 o1 o2 o3) | fail)
  try rw [Nat.zero_add, List.nil_append] at o1
  have hbel : Below w.heap.size w w1 := (Hb.out _).grown o2 (by simp) (fun q hq => (Hlit.out.lt q hq).1)
  obtain ⟨x, hx⟩ : ∃ x, v1.ownBlock = some x := by
    rcases o3 with e | e
    · exact ⟨_, e.trans rfl⟩
    · exact ⟨_, e⟩
  obtain ⟨c1, rfl, _⟩ := own_some o1 hx
  have O := Lib.hid (show ∃ g c', Ending.returned (.slice (some ⟨x, 0, none⟩) n c1) = .returned (.slice (some ⟨g, 0, none⟩) n c') ∧ w1.ownsRow w.heap.size 9 1 (.slice (some ⟨g, 0, none⟩) n c') n xs ∧ Below w.heap.size w w1 from ⟨x, c1, rfl, o1, hbel⟩)
  clear o1 o2 o3 hx hbel Hlit Hb Hr
  go_wp2_with fail
  go_ret
  exact O.out
end Go.Proofs.Ytangdmjdjiddcaa.tree
