/- Merged: El Flat CofStrI CofTreeI TrCopyI. -/
import Derived.Test.YtangdmjdjiddcaaDoorGA3
import Derived.Deep.Slices
import Derived.Test.YtangdmjdjiddcaaDoorGA4
import Derived.Test.YtangdmjdjiddcaaDoorGA8
import Derived.Test.YtangdmjdjiddcaaDoorRows
import Derived.ProofKit
import Derived.OpenShut
import Derived.Deep.LoopGhost
import Derived.Deep.WholeRow
import Derived.WalkMore
namespace Go.Proofs.YtangdmjdjiddcaaDoor
open Go Go.RowKit
set_option linter.unusedVariables false

theorem flat_get' {α β : Type} {f : α → List β} {sz : Nat} (hf : ∀ a, (f a).length = sz) : ∀ (l : List α) (i j : Nat) (a : α), l[i]? = some a → j < sz → (l.flatMap f)[i * sz + j]? = (f a)[j]?
  | [], i, j, a, h, _ => by simp at h
  | x :: l, 0, j, a, h, hj => by
    simp at h
    subst h
    rw [List.flatMap_cons, List.getElem?_append_left (by rw [hf]; omega)]
    simp
  | x :: l, i + 1, j, a, h, hj => by
    rw [List.flatMap_cons, List.getElem?_append_right (by rw [hf, Nat.add_mul]; omega), hf, Nat.add_mul, show i * sz + 1 * sz + j - sz = i * sz + j by omega]
    exact flat_get' hf l i j a (by simpa using h) hj
theorem flat_length' {α β : Type} {f : α → List β} {sz : Nat} (hf : ∀ a, (f a).length = sz) : ∀ l : List α, (l.flatMap f).length = l.length * sz
  | [] => by simp
  | x :: l => by rw [List.flatMap_cons, List.length_append, hf, flat_length' hf l, List.length_cons, Nat.add_mul]; omega
/-- The elements of a slice of structs, each as its cells. -/
def ElsAt {α : Type} (row : α → List C) (w : World) (f : Nat) (A : Option Addr) (l : List α) (k : Nat) : Prop :=
  0 < l.length → ∃ g o, A = some ⟨g, o, none⟩ ∧ g < w.heap.size ∧ ∀ (j : Nat) (x : α), l[j]? = some x → ∃ us : List Value, us.length = k ∧ (∀ i u, us[i]? = some u → w.cell? ⟨g, o + j * k + i, none⟩ = some u) ∧ LiesS w f us (row x)
theorem ElsAt.kept {α : Type} {row : α → List C} {w w' : World} {f : Nat} {A : Option Addr} {l : List α} {k : Nat} (h : ElsAt row w f A l k) (hk : ∀ g, g < w.heap.size → w'.heap[g]? = w.heap[g]?) : ElsAt row w' f A l k := by
  intro hn
  obtain ⟨g, o, rfl, hg, hc⟩ := h hn
  have e := hk g hg
  have hs : g < w'.heap.size := by
    rw [Array.getElem?_eq_getElem hg] at e
    exact heap_lt e
  refine ⟨g, o, rfl, hs, fun j x hx => ?_⟩
  obtain ⟨us, h1, h2, h3⟩ := hc j x hx
  exact ⟨us, h1, fun i u hu => (World.cell?_of_block e).trans (h2 i u hu), h3.kept hk⟩
theorem ElsAt.below {α : Type} {row : α → List C} {w w' : World} {f : Nat} {A : Option Addr} {l : List α} {k : Nat} (h : ElsAt row w f A l k) (hb : Below w.heap.size w w') : ElsAt row w' f A l k := h.kept hb.block
theorem els_of {α : Type} {row : α → List C} {k : Nat} (hk : ∀ x, (row x).length = k) {w : World} {f : Nat} {v : Value} {l : List α} (h : Lies w f v (.sl k l.length (l.flatMap row))) :
    ∃ A c, v = .slice A l.length c ∧ l.length ≤ c ∧ c ≤ maxLen ∧ ∃ f', f = f' + 1 ∧ ElsAt row w f' A l k := by
  obtain ⟨A, c, rfl, h1, h2, _, f', rfl, h3⟩ := h.sl
  refine ⟨A, c, rfl, h1, h2, f', rfl, fun hn => ?_⟩
  obtain ⟨g, o, rfl, hg, hc⟩ := h3 hn
  refine ⟨g, o, rfl, hg, fun j x hx => ?_⟩
  have hone : ∀ i, i < k → ∃ u : Value, w.cell? ⟨g, o + (j * k + i), none⟩ = some u ∧ ∃ d, (row x)[i]? = some d ∧ Lies w f' u d := fun i hi => by
    have hd : i < (row x).length := by rw [hk]; exact hi
    obtain ⟨u, hu, hl⟩ := hc (j * k + i) (row x)[i] (by rw [flat_get' hk l j i x hx hi]; exact List.getElem?_eq_getElem hd)
    exact ⟨u, hu, _, List.getElem?_eq_getElem hd, hl⟩
  obtain ⟨q, hq⟩ := Go.Deep.choose_lt hone
  refine ⟨(List.range k).map q, by simp, fun i u hu => ?_, by simp [hk], fun m u d hu hd => ?_⟩
  · have hi : i < k := by have := (List.getElem?_eq_some_iff.1 hu).1; simpa using this
    simp [hi] at hu
    subst hu
    rw [Nat.add_assoc]
    exact (hq i hi).1
  · have hi : m < k := by have := (List.getElem?_eq_some_iff.1 hu).1; simpa using this
    simp [hi] at hu
    subst hu
    obtain ⟨_, d', e, hl⟩ := hq m hi
    rw [e] at hd
    injection hd with hd
    exact hd ▸ hl
/-- One element, its place known. -/
theorem ElsAt.get {α : Type} {row : α → List C} {w : World} {f : Nat} {A : Option Addr} {l : List α} {k : Nat} (h : ElsAt row w f A l k) {j : Nat} (hj : j < l.length) : ∃ g o, A = some ⟨g, o, none⟩ ∧ g < w.heap.size ∧ ∃ us : List Value, us.length = k ∧ (∀ i u, us[i]? = some u → w.cell? ⟨g, o + j * k + i, none⟩ = some u) ∧ LiesS w f us (row l[j]) := by
  obtain ⟨g, o, hA, hg, hc⟩ := h (by omega)
  exact ⟨g, o, hA, hg, hc j _ (List.getElem?_eq_getElem hj)⟩

/-! What is left of so many. -/
/-- What is left of so many behind x: -1 if they do not do. -/
def cutN (left : Int) (x : Nat) : Int := if left < x then -1 else left - x
theorem cutN_no {left : Int} {x : Nat} (h : left < x) : cutN left x = -1 := by unfold cutN; rw [if_pos h]
theorem cutN_yes {left : Int} {x : Nat} (h : ¬ left < x) : cutN left x = left - x := by unfold cutN; rw [if_neg h]
def LeftN (l : Int) : Prop := 0 ≤ l ∧ l ≤ 1048576
def wsum {α : Type} (wt : α → Nat) (l : List α) : Nat := (l.map wt).sum
theorem wsum_append {α : Type} (wt : α → Nat) (a b : List α) : wsum wt (a ++ b) = wsum wt a + wsum wt b := by simp [wsum]
theorem wsum_take {α : Type} (wt : α → Nat) {l : List α} {j : Nat} (h : j < l.length) : wsum wt (l.take (j + 1)) = wsum wt (l.take j) + wt l[j] := by
  rw [List.take_succ_eq_append_getElem h, wsum_append]; simp [wsum]
theorem wsum_all {α : Type} (wt : α → Nat) (l : List α) (j : Nat) : wsum wt l = wsum wt (l.take j) + wsum wt (l.drop j) := by
  rw [← wsum_append, List.take_append_drop]
theorem wsum_mem {α : Type} (wt : α → Nat) {l : List α} {j : Nat} (h : j < l.length) : wt l[j] ≤ wsum wt l := by
  have h1 := wsum_all wt l (j + 1)
  rw [wsum_take wt h] at h1
  omega

/-! The law's marks on a list. -/
def mks {α : Type} (mk : α → Int → α) (cost : α → Nat) : List α → Int → List α
  | [], _ => []
  | x :: r, k => mk x k :: mks mk cost r (k + cost x)
theorem mks_length {α : Type} (mk : α → Int → α) (cost : α → Nat) : ∀ (l : List α) (k : Int), (mks mk cost l k).length = l.length
  | [], _ => rfl
  | x :: r, k => by rw [mks, List.length_cons, List.length_cons, mks_length mk cost r]
theorem mks_append {α : Type} (mk : α → Int → α) (cost : α → Nat) : ∀ (a b : List α) (k : Int), mks mk cost (a ++ b) k = mks mk cost a k ++ mks mk cost b (k + wsum cost a)
  | [], b, k => by simp [mks, wsum]
  | x :: r, b, k => by
    rw [List.cons_append, mks, mks, mks_append mk cost r b, List.cons_append]
    have : (k + (cost x : Int)) + (wsum cost r : Int) = k + (wsum cost (x :: r) : Int) := by simp [wsum]; omega
    rw [this]
theorem mks_next {α : Type} (mk : α → Int → α) (cost : α → Nat) {l : List α} {j : Nat} (h : j < l.length) (k : Int) : mks mk cost (l.take (j + 1)) k ++ l.drop (j + 1) = mks mk cost (l.take j) k ++ (mk l[j] (k + wsum cost (l.take j)) :: l.drop (j + 1)) := by
  rw [List.take_succ_eq_append_getElem h, mks_append]
  simp [mks]
theorem mks_get {α : Type} (mk : α → Int → α) (cost : α → Nat) {l : List α} {j : Nat} (h : j < l.length) (k : Int) : (mks mk cost l k)[j]? = some (mk l[j] (k + wsum cost (l.take j))) := by
  have e : l = l.take j ++ (l[j] :: l.drop (j + 1)) := by rw [← List.drop_eq_getElem_cons h, List.take_append_drop]
  have e2 : mks mk cost l k = mks mk cost (l.take j) k ++ (mk l[j] (k + wsum cost (l.take j)) :: mks mk cost (l.drop (j + 1)) (k + wsum cost (l.take j) + cost l[j])) := by
    conv => lhs; rw [e]
    rw [mks_append, mks]
  rw [e2, List.getElem?_append_right (by rw [mks_length, List.length_take]; omega), mks_length, List.length_take, show j - min j l.length = 0 by omega]
  rfl
end Go.Proofs.YtangdmjdjiddcaaDoor
namespace Go.Proofs.YtangdmjdjiddcaaDoor
open Go Go.RowKit
set_option linter.unusedVariables false

/-- A slice of m elements of k cells reads so. -/
def RdK (w : World) (A : Option Addr) (m k : Nat) (news : List Value) : Prop :=
  news.length = m * k ∧ (0 < m → ∃ g o, A = some ⟨g, o, none⟩ ∧ g < w.heap.size ∧ ∀ j u, news[j]? = some u → w.cell? ⟨g, o + j, none⟩ = some u)
theorem RdK.below {w w' : World} {A : Option Addr} {m k : Nat} {news : List Value} (h : RdK w A m k news) (hb : Below w.heap.size w w') : RdK w' A m k news := by
  refine ⟨h.1, fun hm => ?_⟩
  obtain ⟨g, o, hA, hg, hc⟩ := h.2 hm
  exact ⟨g, o, hA, Nat.lt_of_lt_of_le hg hb.size, fun j u hu => (World.cell?_of_block (hb.block g hg)).trans (hc j u hu)⟩
theorem run_append_rdk {P : Program} {w : World} (base : Nat) (t ty e : TypeId) (i : TypeInfo) (z : Value) (size bytes : Nat) (ht : P.underlying t = some (.slice e)) (hi : P.info? e = some i) (hz : i.zero = some z)
    (hsize : i.size = size) (hby : i.bytes = bytes) (hzs : z.cells.size = size) (hsz : 0 < size) (v : Value) (n : Nat) (xs : List Value) (hown : w.ownsRow base e size v n xs)
    (A : Option Addr) (m c : Nat) (news : List Value) (hr : RdK w A m size news) (h1 : ∀ u ∈ news, u.oneCell' = true)
    (h63 : n + m ≤ maxLen) (hbytes : (n + m) * bytes ≤ 140737488355328) (hbase : base ≤ w.heap.size) :
    ∃ v' w', (Builtin.append_ #[t, t] ty #[v, .slice A m c]).run P w = .ok v' w' ∧ w'.ownsRow base e size v' (n + m) (xs ++ news) ∧ w.grownBy w' v.ownBlock ∧ (v'.ownBlock = v.ownBlock ∨ v'.ownBlock = some w.heap.size) := by
  rcases Nat.eq_zero_or_pos m with hm | hm
  · subst hm
    have hn : news = [] := List.eq_nil_of_length_eq_zero (by rw [hr.1]; simp)
    subst hn
    cases A with
    | some ad =>
      obtain ⟨v', w', r0, r1, r2, _, r3⟩ := run_append_own_at (P := P) w base t ty e i z size bytes ht hi hz hsize hby hzs hsz v n xs hown ad 0 c [] (by simp) (fun j u hu => by simp at hu) h1 h63 hbytes hbase
      exact ⟨v', w', r0, r1, r2, r3⟩
    | none =>
      refine ⟨v, w, ?_, by simpa using hown, World.grownBy.refl _ _, .inl rfl⟩
      subst hsize
      rcases hown.2 with ⟨rfl, rfl⟩ | ⟨g, cap, cur, rfl, _, _, hnc, _⟩
      · simp [Builtin.append_, run_underlying ht, sizeOf, typeInfo, hi, Builtin.lenOf, Builtin.firstCells]
      · simp [Builtin.append_, run_underlying ht, sizeOf, typeInfo, hi, Builtin.lenOf, Builtin.firstCells, hnc, storeCells]
  · obtain ⟨g, o, rfl, hg, hc⟩ := hr.2 hm
    obtain ⟨v', w', r0, r1, r2, _, r3⟩ := run_append_own_at (P := P) w base t ty e i z size bytes ht hi hz hsize hby hzs hsz v n xs hown ⟨g, o, none⟩ m c news hr.1 (fun j u hu => by rw [Addr.add_lit]; exact hc j u hu) h1 h63 hbytes hbase
    exact ⟨v', w', r0, r1, r2, r3⟩
/-- append(v, x...) of a slice x that reads, nil or not. -/
theorem wpList_append_rdk {P : Program} {w : World} {ops : Array Oper} {rest : List Oper} {o : Oper} {a : Act} {Q : Exit → Act → World → Prop} (hgd : o.guard = none) (s x : Operand) (t : TypeId)
    (ho : o.op = .call { callee := .builtin .append, args := #[s, x], argTypes := #[t, t] })
    (base : Nat) (e : TypeId) (i : TypeInfo) (z : Value) (size bytes : Nat) (ht : P.underlying t = some (.slice e)) (hi : P.info? e = some i) (hz : i.zero = some z)
    (hsize : i.size = size) (hby : i.bytes = bytes) (hzs : z.cells.size = size) (hsz : 0 < size)
    (v : Value) (n : Nat) (xs : List Value) (hs : a.eval s = v) (hown : w.ownsRow base e size v n xs)
    (A : Option Addr) (m c : Nat) (news : List Value) (hx : a.eval x = .slice A m c) (hr : RdK w A m size news) (h1 : ∀ u ∈ news, u.oneCell' = true)
    (h63 : n + m ≤ maxLen) (hbytes : (n + m) * bytes ≤ 140737488355328) (hbase : base ≤ w.heap.size)
    (h : ∀ v' w', w'.ownsRow base e size v' (n + m) (xs ++ news) → w.grownBy w' v.ownBlock → (v'.ownBlock = v.ownBlock ∨ v'.ownBlock = some w.heap.size) → wpList P ops Q rest (a.put o.dst v') w') :
    wpList P ops Q (o :: rest) a w := by
  refine wpList_plain hgd fun K hK => ?_
  obtain ⟨v', w', hr', h2, h3, h5⟩ := run_append_rdk (P := P) base t o.type e i z size bytes ht hi hz hsize hby hzs hsz v n xs hown A m c news hr h1 h63 hbytes hbase
  unfold Oper.wp execOp
  simp only [ho, resolve, invoke, builtin, Sem.run_bind, Sem.run_pure, Result.andThen_ok, List.map_toArray, List.map_cons, List.map_nil, hs, hx, hr']
  exact hK _ _ (h v' w' h2 h3 h5)
/-- As one step of a region that draws its order. -/
theorem step_append_rdk {P : Program} {ops : Array Oper} {o : Oper} {a : Act} {w : World} {K : Act → World → Prop} {Q : Exit → Act → World → Prop} {E : Prop}
    (hg : o.guard = none) (s x : Operand) (t : TypeId) (hop : o.op = Op.call { callee := Callee.builtin Builtin.append, args := #[s, x], argTypes := #[t, t] })
    (base : Nat) (e : TypeId) (i : TypeInfo) (z : Value) (size bytes : Nat) (ht : P.underlying t = some (.slice e)) (hi : P.info? e = some i) (hz : i.zero = some z)
    (hsize : i.size = size) (hby : i.bytes = bytes) (hzs : z.cells.size = size) (hsz : 0 < size)
    (v : Value) (n : Nat) (xs : List Value) (hs : a.eval s = v) (hown : w.ownsRow base e size v n xs)
    (A : Option Addr) (m c : Nat) (news : List Value) (hx : a.eval x = .slice A m c) (hr : RdK w A m size news) (h1 : ∀ u ∈ news, u.oneCell' = true)
    (h63 : n + m ≤ maxLen) (hbytes : (n + m) * bytes ≤ 140737488355328) (hbase : base ≤ w.heap.size)
    (hK : ∀ v' w', w'.ownsRow base e size v' (n + m) (xs ++ news) → w.grownBy w' v.ownBlock → (v'.ownBlock = v.ownBlock ∨ v'.ownBlock = some w.heap.size) → K (a.put o.dst v') w') :
    if Region.wanted o (yielded ops a.tmps) = true then Oper.wp P o a w K Q else E := by
  have hw : Region.wanted o (yielded ops a.tmps) = true := by simp [Region.wanted, hg]
  rw [if_pos hw]
  obtain ⟨v', w', hrun, r1, r2, r3⟩ := run_append_rdk (P := P) base t o.type e i z size bytes ht hi hz hsize hby hzs hsz v n xs hown A m c news hr h1 h63 hbytes hbase
  unfold Oper.wp
  simp [execOp, hop, resolve, invoke, builtin, hs, hx, hrun, Result.andThen]
  exact hK v' w' r1 r2 r3
/-- The first and the last elements of an own row. -/
theorem own_rdk {w : World} {B : Nat} {e : TypeId} {k g n c : Nat} {xs : List Value} (h : w.ownsRow B e k (.slice (some ⟨g, 0, none⟩) n c) n xs) (p q m : Nat) (hq : q = p * k) (hm : p + m ≤ n) :
    RdK w (some ⟨g, q, none⟩) m k ((xs.drop (p * k)).take (m * k)) := by
  subst hq
  have hl := h.1
  refine ⟨?_, fun _ => ⟨g, p * k, rfl, (h.lt g rfl).2, fun j u hu => ?_⟩⟩
  · rw [List.length_take, List.length_drop, hl, ← Nat.sub_mul]
    exact Nat.min_eq_left (Nat.mul_le_mul_right _ (by omega))
  · have hj : j < m * k := by
      have := (List.getElem?_eq_some_iff.1 hu).1
      rw [List.length_take] at this
      omega
    rw [List.getElem?_take_of_lt hj, List.getElem?_drop] at hu
    have := h.cells (g := g) rfl (p * k + j) u hu
    rwa [Addr.add_lit, Nat.zero_add] at this
theorem RdK.nil (w : World) (A : Option Addr) (k : Nat) : RdK w A 0 k [] := ⟨by simp, fun h => absurd h (by omega)⟩
theorem own_lower' {w : World} {B B' : Nat} {e : TypeId} {size n : Nat} {v : Value} {xs : List Value} (h : w.ownsRow B e size v n xs) (hB : B' ≤ B) : w.ownsRow B' e size v n xs :=
  ⟨h.1, h.2.imp id (fun ⟨g, cap, cur, h1, h2, h3⟩ => ⟨g, cap, cur, h1, Nat.le_trans hB h2, h3⟩)⟩
theorem own_some {w : World} {B : Nat} {e : TypeId} {size n x : Nat} {v : Value} {xs : List Value} (h : w.ownsRow B e size v n xs) (hv : v.ownBlock = some x) : ∃ c, v = .slice (some ⟨x, 0, none⟩) n c ∧ n ≤ c ∧ c ≤ maxLen ∧ B ≤ x := by
  rcases h.2 with ⟨rfl, _⟩ | ⟨g, cap, cur, rfl, hb, _, h1, h2, _⟩
  · cases hv
  · injection hv with hv
    subst hv
    exact ⟨cap, rfl, h1, h2, hb⟩
end Go.Proofs.YtangdmjdjiddcaaDoor
namespace Go.Proofs.YtangdmjdjiddcaaDoor.tree
open Go.ChangeShapes Go.WideShapes Go.ChangeAt Go.RowKit
set_option linter.unusedVariables false

set_option maxRecDepth 100000 in
theorem impl_cofStr (A : Option Addr) (n c : Nat) (xs : List Value) (w : World) (hc1 : n ≤ c) (hc2 : c ≤ maxLen) (hr : Rd w A n xs) (hone : ∀ u ∈ xs, u.oneCell' = true) (hn : n ≤ 1048576) :
    Calls Tryd.prog 80 #[.slice A n c] w fun e w' => ∃ g c', e = .returned (.slice (some ⟨g, 0, none⟩) n c') ∧ w'.ownsRow w.heap.size 9 1 (.slice (some ⟨g, 0, none⟩) n c') n xs ∧ Below w.heap.size w w' := by
  unfold maxLen at hc2
  obtain ⟨i0, hi, hz0, hz1, hz2⟩ := info_parts TrydinfoStr'
  have Hr := Lib.hid hr
  have Hone := Lib.hid hone
  have Hlit : Hid ((w.alloc (.cells #[] 9)).ownsRow w.heap.size 9 1 (.slice (some ⟨w.heap.size, 0, none⟩) 0 0) 0 []) :=
    World.ownsRow_lit w #[] 0 (Nat.le_refl _) (by simp [maxLen]) rfl
  have Hb := Lib.hid (fun o => (Below.refl w.heap.size w).alloc (Nat.le_refl _) o)
  have hn2 := Lib.hid hn
  clear hn hr hone
  go_enter Tryd.func80, Tryd.ntmps80
  go_wp2_with (first | (at_builtin; refine wpList_append_rd rfl (.tmp 3) (.tmp 4) 24 rfl w.heap.size 9 i0 (.string ⟨#[]⟩) 16 Tryd.underlying24 hi hz0 hz1 hz2 rfl _ 0 [] rfl Hlit.out A n c xs rfl (Hr.out.below (Hb.out _)) Hone.out (by have := hn2.out; unfold maxLen; omega) (by have := hn2.out; omega) (by simp) ?_; intro v1 w1 o1 o2 o3) | fail)
  try rw [Nat.zero_add, List.nil_append] at o1
  have hbel : Below w.heap.size w w1 := (Hb.out _).grown o2 (by simp) (fun q hq => (Hlit.out.lt q hq).1)
  obtain ⟨x, hx⟩ : ∃ x, v1.ownBlock = some x := by
    rcases o3 with e | e
    · exact ⟨_, e.trans rfl⟩
    · exact ⟨_, e⟩
  obtain ⟨c1, rfl, _⟩ := own_some o1 hx
  have O := Lib.hid (show ∃ g c', Ending.returned (.slice (some ⟨x, 0, none⟩) n c1) = .returned (.slice (some ⟨g, 0, none⟩) n c') ∧ w1.ownsRow w.heap.size 9 1 (.slice (some ⟨g, 0, none⟩) n c') n xs ∧ Below w.heap.size w w1 from ⟨x, c1, rfl, o1, hbel⟩)
  clear o1 o2 o3 hx hbel Hlit Hb Hr
  go_wp2_with fail
  go_ret
  exact O.out
end Go.Proofs.YtangdmjdjiddcaaDoor.tree
namespace Go.Proofs.YtangdmjdjiddcaaDoor.tree
open Go.ChangeShapes Go.WideShapes Go.ChangeAt Go.RowKit
set_option linter.unusedVariables false

set_option maxRecDepth 100000 in
theorem impl_cofTree (A : Option Addr) (n c : Nat) (xs : List Value) (w : World) (hc1 : n ≤ c) (hc2 : c ≤ maxLen) (hr : RdN w A n 6 xs) (hone : ∀ u ∈ xs, u.oneCell' = true) (hn : n ≤ 1048576) :
    Calls Tryd.prog 81 #[.slice A n c] w fun e w' => ∃ g c', e = .returned (.slice (some ⟨g, 0, none⟩) n c') ∧ w'.ownsRow w.heap.size 35 6 (.slice (some ⟨g, 0, none⟩) n c') n xs ∧ Below w.heap.size w w' := by
  unfold maxLen at hc2
  obtain ⟨i0, hi, hz0, hz1, hz2⟩ := info_parts TrydinfoTree'
  have Hr := Lib.hid hr
  have Hone := Lib.hid hone
  have Hlit : Hid ((w.alloc (.cells #[] 35)).ownsRow w.heap.size 35 6 (.slice (some ⟨w.heap.size, 0, none⟩) 0 0) 0 []) :=
    World.ownsRow_lit w #[] 0 (Nat.le_refl _) (by simp [maxLen]) rfl
  have Hb := Lib.hid (fun o => (Below.refl w.heap.size w).alloc (Nat.le_refl _) o)
  have hn2 := Lib.hid hn
  clear hn hr hone
  go_enter Tryd.func81, Tryd.ntmps81
  go_wp2_with (first | (at_builtin; refine wpList_append_rdN rfl (.tmp 3) (.tmp 4) 33 rfl w.heap.size 35 i0 _ 6 88 Tryd.underlying33 hi hz0 hz1 hz2 rfl (by decide) _ 0 [] rfl Hlit.out A n c xs rfl (Hr.out.below (Hb.out _)) Hone.out (by have := hn2.out; unfold maxLen; omega) (by have := hn2.out; omega) (by simp) ?_; intro v1 w1 o1 o2 o3) | fail)
  try rw [Nat.zero_add, List.nil_append] at o1
  have hbel : Below w.heap.size w w1 := (Hb.out _).grown o2 (by simp) (fun q hq => (Hlit.out.lt q hq).1)
  obtain ⟨x, hx⟩ : ∃ x, v1.ownBlock = some x := by
    rcases o3 with e | e
    · exact ⟨_, e.trans rfl⟩
    · exact ⟨_, e⟩
  obtain ⟨c1, rfl, _⟩ := own_some o1 hx
  have O := Lib.hid (show ∃ g c', Ending.returned (.slice (some ⟨x, 0, none⟩) n c1) = .returned (.slice (some ⟨g, 0, none⟩) n c') ∧ w1.ownsRow w.heap.size 35 6 (.slice (some ⟨g, 0, none⟩) n c') n xs ∧ Below w.heap.size w w1 from ⟨x, c1, rfl, o1, hbel⟩)
  clear o1 o2 o3 hx hbel Hlit Hb Hr
  go_wp2_with fail
  go_ret
  exact O.out
end Go.Proofs.YtangdmjdjiddcaaDoor.tree
namespace Go.Proofs.YtangdmjdjiddcaaDoor.tree
open Go.ChangeShapes Go.WideShapes Go.ChangeAt Go.RowKit
set_option linter.unusedVariables false

theorem TrydinfoPtr : (Tryd.prog.info? 118).map (fun i => (i.zero, i.size, i.bytes)) = some (some (.pointer none), 1, 8) := by kernel_rfl
def zr : Array Value := #[.int .i64 0, .bool false, .int .i64 0, .string ⟨#[]⟩, .slice none 0 0, .slice none 0 0]
theorem depth_le_lies : ∀ (f : Nat) (t : T) (w : World) (vs : List Value), LiesS w f vs (row t) → depth t ≤ f
  | 0, t, w, vs, h => by
    obtain ⟨k, fl, n, s, ks, kids⟩ := t
    obtain ⟨_, _, _, _, _, _, _, _, _, _, _, _, _, _, f', hf, _⟩ := open_tree h
    omega
  | f + 1, t, w, vs, h => by
    obtain ⟨k, fl, n, s, ks, kids⟩ := t
    obtain ⟨A1, c1, A2, c2, rfl, _, _, _, _, _, _, _, _, _, f', hf, hk⟩ := open_tree h
    obtain rfl : f = f' := by omega
    rw [depth]
    have : ∀ l : List T, (∀ x ∈ l, depth x ≤ f) → depths l ≤ f := by
      intro l
      induction l with
      | nil => intro _; simp [depths]
      | cons a r ih =>
        intro h
        rw [depths]
        have h1 := h a List.mem_cons_self
        have h2 := ih (fun x hx => h x (List.mem_cons_of_mem _ hx))
        omega
    have := this kids (fun x hx => by
      obtain ⟨i, hi, rfl⟩ := List.getElem_of_mem hx
      obtain ⟨g, o, rfl, _, hkid⟩ := hk (by omega)
      obtain ⟨u0, u1, u2, u3, u4, u5, _, hl⟩ := hkid i kids[i] (List.getElem?_eq_getElem hi)
      exact depth_le_lies f _ w _ hl)
    omega
/-- The stack's top: what it holds, popped. -/
theorem stack_top {w : World} {B n : Nat} {e : TypeId} {gs cap : Nat} {p : Value} {r : List Value} (hn : r.length = n) (h : w.ownsRow B e 1 (.slice (some ⟨gs, 0, none⟩) (n + 1) cap) (n + 1) ((p :: r).reverse)) :
    w.cell? ⟨gs, n, none⟩ = some p ∧ n + 1 ≤ cap ∧ w.ownsRow B e 1 (.slice (some ⟨gs, 0, none⟩) n cap) n r.reverse := by
  subst hn
  rw [List.reverse_cons] at h
  refine ⟨?_, ?_, ownsRow_pop (by rw [List.length_reverse]; omega) h⟩
  · rw [h.cellAt r.length (by omega), List.getElem?_append_right (by rw [List.length_reverse]; exact Nat.le_refl _), List.length_reverse]
    simp
  · rcases h.2 with ⟨h, _⟩ | ⟨g', cap', cur, h, _, _, h1, _⟩
    · cases h
    · injection h with _ _ h
      omega

set_option maxRecDepth 100000 in
set_option maxHeartbeats 16000000 in
theorem impl_copy (f : Nat) (t : T) (vs : List Value) (w : World) (h : LiesS w f vs (row t)) (hsz : weight t ≤ 1048576) :
    Calls Tryd.prog 71 #[.agg vs.toArray] w fun e w' => TreeOut' w.heap.size (f + 2) t e w' ∧ Below w.heap.size w w' := by
  have hsz2 : size t ≤ 1048577 := by have := size_le_weight t; omega
  have hdep := depth_le_lies f t w vs h
  obtain ⟨u0, u1, u2, u3, u4, u5, rfl⟩ := six_of (h.1.trans (row_length t))
  have hone := LiesS.ones h
  obtain ⟨i0, hi, hz0, hz1, hz2⟩ := info_parts TrydinfoStr'
  obtain ⟨i1, hi', hy0, hy1, hy2⟩ := info_parts TrydinfoTree'
  obtain ⟨i2, hi'', hx0, hx1, hx2⟩ := info_parts TrydinfoPtr
  -- the worlds ahead of the loop
  obtain ⟨wa, hwa⟩ : ∃ wa, wa = (w.alloc (.cells #[u0, u1, u2, u3, u4, u5] 35)).alloc (.cells #[.int .i64 0, .bool false, .int .i64 0, .string ⟨#[]⟩, .slice none 0 0, .slice none 0 0] 35) := ⟨_, rfl⟩
  obtain ⟨w1, hw1⟩ : ∃ w1, w1 = wa.alloc (.cells #[.pointer (some ⟨w.heap.size, 0, none⟩)] 118) := ⟨_, rfl⟩
  have hsa : wa.heap.size = w.heap.size + 2 := by rw [hwa]; simp
  have hs1 : w1.heap.size = w.heap.size + 3 := by rw [hw1]; simp [hsa]
  have hb1 : Below w.heap.size w w1 := by rw [hw1, hwa]; exact (((Below.refl _ w).alloc (Nat.le_refl _) _).alloc (by simp) _).alloc (by simp; omega) _
  have h10 : w1.heap[w.heap.size]? = some (.cells #[u0, u1, u2, u3, u4, u5] 35 (0, 0)) := by
    rw [hw1, Below.heap_alloc _ _ _ (by omega), hwa, Below.heap_alloc _ _ _ (by simp)]
    exact heap_alloc_new w _
  have h11 : w1.heap[w.heap.size + 1]? = some (.cells zr 35 (0, 0)) := by
    rw [hw1, Below.heap_alloc _ _ _ (by omega), hwa]
    have h := heap_alloc_new (w.alloc (.cells #[u0, u1, u2, u3, u4, u5] 35)) (.cells zr 35)
    rw [World.size_alloc] at h
    exact h
  have hown : w1.ownsRow (w.heap.size + 2) 118 1 (.slice (some ⟨w.heap.size + 1 + 1, 0, none⟩) 1 1) 1 [.pointer (some ⟨w.heap.size, 0, none⟩)] := by
    have h := World.ownsRow_lit (size := 1) (base := w.heap.size + 2) (e := 118) wa #[.pointer (some ⟨w.heap.size, 0, none⟩)] 1 (by omega) (by simp [maxLen]) rfl
    rw [hsa] at h
    rw [hw1]
    exact h
  have HS := Lib.hid (show CpS w w1 f t (some (w.heap.size + 1 + 1)) 118 35 zr (.slice (some ⟨w.heap.size + 1 + 1, 0, none⟩) 1 1) w1 [(w.heap.size, 0, t)] from
    ⟨hown, fun it hit => by
      obtain rfl := List.mem_singleton.1 hit
      refine ⟨Nat.le_refl _, by show w.heap.size ≠ _; omega, by simp [Value.ownBlock]; omega, _, _, _, h10, rfl, fun j u hu => ?_, h⟩
      simpa using hu, List.pairwise_singleton _ _, hb1, h11, by simp [sizesI], by omega, fun it hit => (by obtain rfl := List.mem_singleton.1 hit; exact hsz), fun w' h => h⟩)
  have Hh := Lib.hid h
  have H10 := Lib.hid h10
  have Hs1 := Lib.hid hs1
  have Hdep := Lib.hid hdep
  have Hsz2 := Lib.hid hsz2
  have Hsz := Lib.hid hsz
  have Hwa := Lib.hid hwa
  have Hw1 := Lib.hid hw1
  clear h hdep hsz2 hsz hwa hw1 hsa hs1 hb1 h10 h11 hown
  go_enter Tryd.func71, Tryd.ntmps71
  go_wp2_with fail
  rw [← Hwa.out, ← Hw1.out]
  go_loopg [3] (sizesI [(w.heap.size, 0, t)]) (fun kk r wr => ∃ (todo : List It), kk = sizesI todo ∧ Hid (CpS w w1 f t (some (w.heap.size + 1 + 1)) 118 35 zr r wr todo))
  case atStart => exact ⟨_, rfl, HS.out⟩
  case round =>
    obtain ⟨todo, rfl, hC⟩ := hrel
    cases todo with
    | nil =>
      obtain ⟨A, c, rfl⟩ := own_is_slice hC.out.own
      obtain ⟨hfr, F, hfill, hnd, hF⟩ := hC.out.wand wr (Fin.nil _ _ _)
      obtain ⟨xs, F1, F2, rfl, ⟨hx6, hx⟩, ho, rfl⟩ := hfill
      obtain ⟨x0, x1, x2, x3, x4, x5, rfl⟩ := six_of hx6
      rw [List.append_nil] at hnd
      obtain ⟨cur, hcur, hcs, _⟩ := hfr.part w.heap.size _ _ _ H10.out (by simp; omega)
      have hcur' : wr.heap[w.heap.size]? = some (.cells #[x0, x1, x2, x3, x4, x5] 35 (0, 0)) := by
        rw [hcur]
        congr 2
        have hj : ∀ j u, [x0, x1, x2, x3, x4, x5][j]? = some u → cur[j]? = some u := fun j u hu => by
          have h := hx j u hu
          simp only [Nat.zero_add] at h
          rw [cell_of_row wr w.heap.size j cur _ (0, 0) hcur] at h
          exact h
        apply Array.ext_getElem?
        intro j
        by_cases h6 : j < 6
        · have h7 : j < [x0, x1, x2, x3, x4, x5].length := h6
          have h8 := hj j _ (List.getElem?_eq_getElem h7)
          rw [h8]
          simp
        · rw [Array.getElem?_eq_none (by rw [hcs]; show 6 ≤ j; omega), Array.getElem?_eq_none (by show 6 ≤ j; omega)]
      have hone6 := ho.one
      have HC := Lib.hid hC.out
      have Ho := Lib.hid ho
      have hres := hC.out.res
      have Hcur := Lib.hid hcur'
      have HF := Lib.hid (show ∀ x ∈ F1, w.heap.size + 2 ≤ x from fun x hx => by have h := hF x (List.mem_append.2 (.inl hx)); have h2 := Hs1.out; omega)
      clear hC hfr hF hx hcur hcs
      go_wp2_with (first | (refine wpList_load_row rfl 35 _ rfl w.heap.size rfl 35 #[x0, x1, x2, x3, x4, x5] (0, 0) _ hcur' Tryd.underlying35 rfl tree_size' ?_) | (refine wpList_store_row rfl 35 _ _ rfl (w.heap.size + 1) #[x0, x1, x2, x3, x4, x5] rfl rfl 35 _ hres tree_size' rfl hone6 ?_) | fail)
      have ho3 : OwnS (wr.setRow (w.heap.size + 1) #[x0, x1, x2, x3, x4, x5]) w.heap.size (f + 2) [x0, x1, x2, x3, x4, x5] (row t) F1 := (OwnS.kept (fun x hx => by
        have h3 := HF.out x hx
        simp only [World.setRow, Array.getElem?_modify]
        rw [if_neg (by omega)]) Ho.out).deeper (by have := Hdep.out; show depth t + 1 ≤ _; omega)
      refine bodyPost_ret (v := .agg #[x0, x1, x2, x3, x4, x5]) ?_ rfl ⟨⟨_, F1, rfl, ho3, hnd⟩, setRow_below HC.out.bel (by omega) _⟩
      exact results_cell_row rfl _ _ (w.heap.size + 1) _ _ (0, 0) _ rfl (setRow_at HC.out.res) Tryd.underlying35 rfl tree_size'
    | cons it todo =>
      obtain ⟨g, o, ⟨k, fl, n, s, ks, kids⟩⟩ := it
      obtain ⟨gs, cap, rfl⟩ := ownsRow_succ hC.out.own
      obtain ⟨hn1, hn2, hn3, cur, e, us, hg, hus6, hus, hl⟩ := hC.out.it _ List.mem_cons_self
      obtain ⟨A1, c1, A2, c2, rfl, wk, wn, ws, hc1, hc2, hr, wks, hc3, hc4, f', hf', hk⟩ := open_tree hl
      obtain ⟨A', c', xs, hA', _, _, hrk, hxs⟩ := lies_cells (hl.2 5 _ _ rfl rfl)
      obtain ⟨rfl, rfl⟩ : A2 = A' ∧ c2 = c' := by injection hA' with e1 _ e3; exact ⟨e1, e3⟩
      obtain ⟨hc', hcap, hpop⟩ := stack_top (by simp) hC.out.own
      have hc : wr.cell? ⟨gs, todo.length, none⟩ = some (.pointer (some ⟨g, o, none⟩)) := hc'
      clear hc'
      have hglt := heap_lt hg
      have hcg : ∀ j u, [Value.int .i64 k, .bool fl, .int .i64 n, .string s, .slice A1 ks.length c1, .slice A2 kids.length c2][j]? = some u → wr.cell? ⟨g, o + j, none⟩ = some u := fun j u hu => by
        rw [cell_of_row wr g _ cur e (0, 0) hg]
        exact hus j u hu
      have p4 := hcg 4 _ rfl
      have hkl : ks.length ≤ 1048576 ∧ kids.length ≤ 1048576 := by
        have h := hC.out.wt _ List.mem_cons_self
        simp only [weight] at h
        omega
      have Hkl := Lib.hid hkl
      clear hkl
      have hbd : (todo.length : Int) + 1 ≤ 9223372036854775807 := by
        have h1 := sizesI_length ((g, o, T.mk k fl n s ks kids) :: todo)
        have h2 := hC.out.bd
        have h3 := Hsz2.out
        rw [List.length_cons] at h1
        omega
      have e1 : ((todo.length + 1 : Nat) : Int) - 1 = (todo.length : Int) := by omega
      have HKs := Lib.hid (impl_cofStr A1 ks.length c1 (scells ks) wr hc1 hc2 (hr.below hC.out.bel) (strs_one ks) (by have := Hkl.out; omega))
      have Hcc := Lib.hid (And.intro hc3 hc4)
      have HC := Lib.hid hC.out
      have Hg := Lib.hid hg
      have Hus := Lib.hid hus
      have Hcg := Lib.hid hcg
      have Hw := Lib.hid (show (Lit.int .i64 k).wf = true ∧ (Lit.int .i64 n).wf = true ∧ s.size ≤ maxLen ∧ (∀ x ∈ ks, x.size ≤ maxLen) from ⟨wk, wn, ws, wks⟩)
      have Hrk := Lib.hid hrk
      have Hxs := Lib.hid hxs
      have Hpop := Lib.hid hpop
      have Hn3 := Lib.hid hn3
      clear hC hg hus hcg hrk hxs hpop hn3 hr hl hk hf' hA' wk wn ws wks hus6 hc1 hc2 hc3 hc4
      go_wp2_with fail
      refine HKs.out.mono ?_
      rintro e2 W2 ⟨gK, ck, rfl, hks2, hb2⟩
      obtain ⟨Ak, hAk⟩ : ∃ Ak, Ak = (some ⟨gK, 0, none⟩ : Option Addr) := ⟨_, rfl⟩
      rw [← hAk] at hks2 ⊢
      clear HKs hAk
      have hg2 := (hb2.block g hglt).trans Hg.out
      have p4 : W2.cell? ⟨g, o + 4, none⟩ = some (.slice A1 ks.length c1) := (World.cell?_of_block (hb2.block g hglt)).trans (Hcg.out 4 _ rfl)
      have f4 := frozen_of_row W2 g (o + 4) cur e hg2
      obtain ⟨W3, hW3⟩ : ∃ W3, W3 = W2.setCell ⟨g, o + 4, none⟩ (.slice Ak ks.length ck) := ⟨_, rfl⟩
      have hs3 : W3.heap.size = W2.heap.size := by rw [hW3]; simp
      have hg3 : W3.heap[g]? = some (.cells (cur.setIfInBounds (o + 4) (.slice Ak ks.length ck)) e (0, 0)) := by rw [hW3]; exact heap_setCell_same _ _ _ _ _ _ hg2
      have p5 : W3.cell? ⟨g, o + 5, none⟩ = some (.slice A2 kids.length c2) := by
        rw [cell_of_row W3 g _ _ e (0, 0) hg3, Array.getElem?_setIfInBounds_ne (by omega)]
        exact Hus.out 5 _ rfl
      have hbw3 : Below w.heap.size w W3 := by
        rw [hW3]
        exact (HC.out.bel.trans (hb2.mono HC.out.bel.size)).setCell (p := ⟨g, o + 4, none⟩) hn1 _
      have HKt := Lib.hid (impl_cofTree A2 kids.length c2 xs W3 Hcc.out.1 Hcc.out.2 (Hrk.out.below hbw3) (LiesS.ones Hxs.out) (by have := Hkl.out; omega))
      have Hs3 := Lib.hid hs3
      have Hks2 := Lib.hid hks2
      have Hb2 := Lib.hid hb2
      have HW3 := Lib.hid hW3
      have Hg3 := Lib.hid hg3
      have p5' := p5
      rw [hW3] at p5
      clear hb2 hg2 hW3 hg3 hbw3 hks2 hs3 hc
      go_wp2_with fail
      rw [← HW3.out]
      refine HKt.out.mono ?_
      rintro e2 W5 ⟨gT, c5, rfl, hkids5, hb5⟩
      obtain ⟨A5, hA5⟩ : ∃ A5, A5 = (some ⟨gT, 0, none⟩ : Option Addr) := ⟨_, rfl⟩
      rw [← hA5] at hkids5 ⊢
      clear HKt hA5
      have hg5 := (hb5.block g (heap_lt Hg3.out)).trans Hg3.out
      have p5 : W5.cell? ⟨g, o + 5, none⟩ = some (.slice A2 kids.length c2) := by
        rw [cell_of_row W5 g _ _ e (0, 0) hg5, Array.getElem?_setIfInBounds_ne (by omega)]
        exact Hus.out 5 _ rfl
      have f5 := frozen_of_row W5 g (o + 5) _ e hg5
      obtain ⟨W6, hW6⟩ : ∃ W6, W6 = W5.setCell ⟨g, o + 5, none⟩ (.slice A5 kids.length c5) := ⟨_, rfl⟩
      have hg6 : W6.heap[g]? = some (.cells ((cur.setIfInBounds (o + 4) (.slice Ak ks.length ck)).setIfInBounds (o + 5) (.slice A5 kids.length c5)) e (0, 0)) := by rw [hW6]; exact heap_setCell_same _ _ _ _ _ _ hg5
      have ho5 : o + 5 < cur.size := (Array.getElem?_eq_some_iff.1 (Hus.out 5 _ rfl)).1
      have q5 : W6.cell? ⟨g, o + 5, none⟩ = some (.slice A5 kids.length c5) := by
        rw [cell_of_row W6 g _ _ e (0, 0) hg6, Array.getElem?_setIfInBounds_self_of_lt (by simp; omega)]
      obtain ⟨gk, hgk, hgk0⟩ : ∃ gk, (∀ b, (Value.slice A5 kids.length c5).ownBlock = some b → b = gk) ∧ (kids ≠ [] → A5 = some ⟨gk, 0, none⟩) := by
        rcases hkids5.2 with ⟨h1, h2⟩ | ⟨b, cap', c', h1, _⟩
        · injection h1 with e1 _ _
          subst e1
          exact ⟨0, fun b hb => (by cases hb), fun hne => absurd (List.eq_nil_of_length_eq_zero h2) hne⟩
        · injection h1 with e1 _ _
          subst e1
          exact ⟨b, fun b' hb => (by simpa [Value.ownBlock] using hb.symm), fun _ => rfl⟩
      have hin : InS w W6 gs gk kids todo 118 0 (.slice (some ⟨gs, 0, none⟩) todo.length cap) W6 := by
        refine ⟨?_, rfl, rfl, rfl, Nat.le_refl _, fun _ _ _ => rfl, .inl rfl⟩
        have hlt := (Hpop.out.lt gs rfl).2
        have hgsg : gs ≠ g := fun e => Hn3.out (by rw [e]; rfl)
        have hkp : W6.heap[gs]? = wr.heap[gs]? := by
          rw [hW6, Below.heap_setCell _ _ _ _ hgsg, hb5.block gs (by have := Hs3.out; have := Hb2.out.size; omega), HW3.out, Below.heap_setCell _ _ _ _ hgsg, Hb2.out.block gs hlt]
        rw [Nat.zero_add]
        refine ⟨Hpop.out.1, ?_⟩
        rcases Hpop.out.2 with ⟨h1, _⟩ | ⟨b, cap', c', h1, h2, h3, h4⟩
        · cases h1
        · obtain rfl : gs = b := by injection h1 with e1; injection e1 with e1; injection e1
          exact .inr ⟨gs, cap', c', h1, h2, hkp.trans h3, h4⟩
      have HW6 := Lib.hid hW6
      have Hg6 := Lib.hid hg6
      have Hin := Lib.hid hin
      have Hb5 := Lib.hid hb5
      have Hkids5 := Lib.hid hkids5
      have Hgk := Lib.hid hgk
      have Hgk0 := Lib.hid hgk0
      have Hgs6 := Lib.hid (show g < W6.heap.size ∧ g ≠ gs from ⟨heap_lt hg6, fun e => Hn3.out (by rw [e]; rfl)⟩)
      have q5' := q5
      rw [hW6] at q5
      clear hg5 hg6 hin hW6 hb5 hkids5 hgk hgk0 ho5
      go_wp2_with fail
      rw [← HW6.out]
      go_loopw [3, 42] (fun r i wD => ∃ (j : Nat), j ≤ kids.length ∧ i = .int .i64 j ∧ Hid (InS w W6 gs gk kids todo 118 j r wD)) (fun _ i _ => kids.length - (intOf i).toNat)
      case atStart => exact ⟨0, Nat.zero_le _, rfl, Hin.out⟩
      case round =>
        obtain ⟨j, hj, rfl, hin⟩ := hrel
        have hD5 : wr.cell? ⟨g, o + 5, none⟩ = some (.slice A5 kids.length c5) := (World.cell?_of_block (hin.out.keep g Hgs6.out.1 Hgs6.out.2)).trans q5'
        obtain ⟨Ar, cr, rfl⟩ := own_is_slice hin.out.own
        by_cases hlt : j < kids.length
        · have hne : kids ≠ [] := fun e => by rw [e] at hlt; simp at hlt
          obtain rfl := Hgk0.out hne
          obtain ⟨W7, hW7⟩ : ∃ W7, W7 = wr.alloc (.cells #[.pointer (some ⟨gk, j * 6, none⟩)] 118) := ⟨_, rfl⟩
          have hb7 : Below wr.heap.size wr W7 := by rw [hW7]; exact (Below.refl _ _).alloc (Nat.le_refl _) _
          have hown7 := own_below' hin.out.own hb7
          have hrd7 : Rd W7 (some ⟨wr.heap.size, 0, none⟩) 1 [.pointer (some ⟨gk, j * 6, none⟩)] := by rw [hW7]; exact rd_one _ _ _
          have hsz7 : w.heap.size + 2 ≤ W7.heap.size := by
            have h1 := hin.out.size
            have h2 := hb7.size
            have h3 := HC.out.sz
            have h4 := Hgs6.out.1
            have h5 := Hpop.out.lt gs rfl
            have h6 := Hb2.out.size
            have h7 := Hs3.out
            have h8 := Hb5.out.size
            have h9 : W6.heap.size = W5.heap.size := by rw [HW6.out]; simp
            omega
          have hbd7 : (j : Int) + todo.length + 1 ≤ 2097154 := by
            have h1 := sizesI_length ((g, o, T.mk k fl n s ks kids) :: todo)
            have h2 := HC.out.bd
            have h3 := Hsz2.out
            have h4 := Hkl.out
            rw [List.length_cons] at h1
            omega
          have hjb : (j : Int) + 1 ≤ 9223372036854775807 := by omega
          have HW7 := Lib.hid hW7
          have Hin2 := Lib.hid hin.out
          have Hown7 := Lib.hid hown7
          have Hrd7 := Lib.hid hrd7
          have Hsz7 := Lib.hid hsz7
          have Hbd7 := Lib.hid hbd7
          clear hW7 hin hown7 hrd7 hsz7 hb7 hbd7
          go_wp2_with (first | (rw [← HW7.out]; refine wpList_append_rd rfl (.tmp 45) (.tmp 52) 119 rfl (w.heap.size + 2) 118 i2 (.pointer none) 8 Tryd.underlying119 hi'' hx0 hx1 hx2 rfl _ _ _ rfl Hown7.out _ 1 1 _ rfl Hrd7.out (by simp [Value.oneCell']) (by have := Hbd7.out; unfold maxLen; omega) (by have := Hbd7.out; omega) Hsz7.out ?_) | fail)
          intro r2 W8 hown8 hgr8 hat8
          obtain ⟨A8, c8, rfl⟩ := own_is_slice hown8
          have Hin8 := Lib.hid (in_step (o := .cells #[.pointer (some ⟨gk, j * 6, none⟩)] 118) Hin2.out (by simpa using hown8) (by rw [← HW7.out]; exact hgr8) (by rw [← HW7.out]; exact hat8))
          clear hown8 hgr8 hat8 Hown7 Hrd7 Hin2 HW7 hD5
          rw [show j + todo.length + 1 = j + 1 + todo.length by omega] at Hin8 ⊢
          go_wp2_with fail
          go_roundw
          case rel => exact ⟨j + 1, by omega, by go_num, Hin8.out⟩
          case measure => simp [intOf]; omega
        · obtain rfl : j = kids.length := by omega
          have HCn := Lib.hid (cp_step HC.out Hg.out Hus.out Hw.out.1 Hw.out.2.1 Hw.out.2.2.1 Hw.out.2.2.2 Hb2.out Hks2.out HW3.out Hb5.out Hkids5.out Hxs.out HW6.out Hgk.out (fun h => by rw [Hgk0.out h]; rfl) hin.out)
          clear hin hD5
          go_wp2_with fail
          go_roundg (sizesI (kidIts gk kids kids.length ++ todo))
          case measure =>
            rw [sizesI_append, sizesI_kids gk kids _ (Nat.le_refl _), List.take_of_length_le (Nat.le_refl _), sizesI]
            simp only [size]
            omega
          case rel => exact ⟨_, rfl, HCn.out⟩
end Go.Proofs.YtangdmjdjiddcaaDoor.tree
