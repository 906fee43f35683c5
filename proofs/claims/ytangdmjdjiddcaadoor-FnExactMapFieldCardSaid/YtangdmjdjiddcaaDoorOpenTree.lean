/- A tree that came in (type laws.Tree), opened: whatever reads as one is one. -/
import Derived.Test.YtangdmjdjiddcaaDoorGA3
import Derived.Test.YtangdmjdjiddcaaDoorRows
import Derived.ProofKit
import Derived.OpenShut
import Derived.ChangeSame
import Derived.Deep.Slices
import Derived.Deep.Strs
namespace Go.Proofs.YtangdmjdjiddcaaDoor.tree
open Go.ChangeShapes Go.WideShapes Go.ChangeAt Go.RowKit
set_option linter.unusedVariables false

theorem cells_tree : Tryd.prog.cellsOf 27 = 6 := by kernel_rfl
theorem cells_int : Tryd.prog.cellsOf 3 = 1 := by kernel_rfl
theorem cells_bool : Tryd.prog.cellsOf 4 = 1 := by kernel_rfl
theorem cells_string : Tryd.prog.cellsOf 9 = 1 := by kernel_rfl
theorem cells_keys : Tryd.prog.cellsOf 24 = 1 := by kernel_rfl
theorem cells_kids : Tryd.prog.cellsOf 25 = 1 := by kernel_rfl

section
variable {H : Type} {enc : TypeId × Value → H} {w : World} {base : Nat} {sp : Nat → Bool} {held : Bool}

/-- The cells of a row that reads. -/
theorem cells_head {a : Addr} {n : Nat} {cs : List Value} (h : w.cells? base (a.add 0) n = some cs) (hn : 0 < n) : a.spot = none ∧ a.block < w.heap.size := by
  obtain ⟨hb, hl, hc⟩ := World.cells?_some h
  have h0 := hc 0 hn
  rw [List.getElem?_eq_getElem (by omega)] at h0
  have e : (a.add 0).add 0 = a := by simp [Addr.add]
  rw [e] at h0
  exact ⟨World.cell?_spot h0, World.block_lt_of_cell? w _ h0⟩
theorem cells_at {g o : Nat} {i n : Nat} {cs : List Value} (h : w.cells? base ((⟨g, o, none⟩ : Addr).add i) n = some cs) : cs.length = n ∧ ∀ j u, cs[j]? = some u → w.cell? ⟨g, o + (i + j), none⟩ = some u := by
  obtain ⟨hb, hl, hc⟩ := World.cells?_some h
  refine ⟨hl, fun j u hu => ?_⟩
  have := hc j (by have := (List.getElem?_eq_some_iff.1 hu).1; omega)
  rw [Addr.add_lit, Addr.add_lit, Nat.add_assoc, hu] at this
  exact this
theorem flat_get {α : Type} {f : α → List C} {sz : Nat} (hf : ∀ a, (f a).length = sz) : ∀ (l : List α) (i j : Nat) (a : α), l[i]? = some a → j < sz → (l.flatMap f)[i * sz + j]? = (f a)[j]?
  | [], i, j, a, h, _ => by simp at h
  | x :: l, 0, j, a, h, hj => by
    simp at h
    subst h
    rw [List.flatMap_cons, List.getElem?_append_left (by rw [hf]; omega)]
    simp
  | x :: l, i + 1, j, a, h, hj => by
    rw [List.flatMap_cons, List.getElem?_append_right (by rw [hf, Nat.add_mul]; omega), hf, Nat.add_mul, show i * sz + 1 * sz + j - sz = i * sz + j by omega]
    exact flat_get hf l i j a (by simpa using h) hj
theorem flat_length {α : Type} {f : α → List C} {sz : Nat} (hf : ∀ a, (f a).length = sz) : ∀ l : List α, (l.flatMap f).length = l.length * sz
  | [] => by simp
  | x :: l => by rw [List.flatMap_cons, List.length_append, hf, flat_length hf l, List.length_cons, Nat.add_mul]; omega
theorem rows_flat : ∀ l : List T, rows l = l.flatMap row
  | [] => rfl
  | t :: r => by rw [rows, List.flatMap_cons, rows_flat r]

/-- A slice whose elements read. -/
theorem lies_slice {P : Program} {t e : TypeId} {sz fuel : Nat} {cs : List Value} {x : DataW H × List MemPlace} {α : Type} [Inhabited α] (f : α → List C) (ht : P.underlying t = some (.slice e)) (hsz : P.cellsOf e = sz) (hpos : 0 < sz) (hf : ∀ a, (f a).length = sz)
    (hel : ∀ n cs' y, n + 1 = fuel → DataW.trod enc P w base sp held n e cs' = some y → ∃ a, LiesS w n cs' (f a)) (h : DataW.trod enc P w base sp held fuel t cs = some x) : ∃ (v : Value) (l : List α), cs = [v] ∧ Lies w fuel v (.sl sz l.length (l.flatMap f)) := by
  rcases DataW.trod_slice ht h with ⟨rfl, _⟩ | ⟨a, len, cap, elems, rest, n, rfl, rfl, _, hb, hl, hm, hlen, hel2, _, _⟩
  · cases fuel with
    | zero => simp [DataW.trod] at h
    | succ n => exact ⟨_, [], rfl, none, 0, rfl, Nat.le_refl _, by simp [maxLen], by simp, fun hn => absurd hn (by simp)⟩
  · rw [hsz] at hel2
    have hone : ∀ i, i < len → ∃ p : List Value × α, w.cells? base (a.add (i * sz)) sz = some p.1 ∧ LiesS w n p.1 (f p.2) := fun i hi => by
      have h1 := hel2 i hi
      rw [List.getElem?_eq_getElem (by omega)] at h1
      obtain ⟨cs', h2, h3⟩ := Option.bind_eq_some_iff.1 h1
      obtain ⟨b, hb⟩ := hel n cs' _ rfl h3
      exact ⟨(cs', b), h2, hb⟩
    obtain ⟨q, hq⟩ := Go.Deep.choose_lt hone
    refine ⟨_, (List.range len).map (fun i => (q i).2), rfl, some a, cap, ?_, ?_, hm, ?_, fun hn => ?_⟩
    · simp
    · simpa using hl
    · rw [flat_length hf]
    · have hn' : 0 < len := by simpa using hn
      have hq0 := (hq 0 hn').1
      rw [Nat.zero_mul] at hq0
      obtain ⟨h1, h2⟩ := cells_head hq0 hpos
      obtain ⟨g, o, spt⟩ := a
      have hspt : spt = none := h1
      subst hspt
      refine ⟨g, o, rfl, h2, fun m d hd => ?_⟩
      have hm1 : m < len * sz := by
        have := (List.getElem?_eq_some_iff.1 hd).1
        rw [flat_length hf] at this
        simpa using this
      have hi : m / sz < len := Nat.div_lt_of_lt_mul (by rw [Nat.mul_comm]; exact hm1)
      have hj : m % sz < sz := Nat.mod_lt _ hpos
      have e : m / sz * sz + m % sz = m := by rw [Nat.mul_comm]; exact Nat.div_add_mod m sz
      rw [← e, flat_get hf _ (m / sz) (m % sz) (q (m / sz)).2 (by simp [hi]) hj] at hd
      obtain ⟨hl2, hcell⟩ := cells_at (hq (m / sz) hi).1
      have hu : (q (m / sz)).1[m % sz]? = some ((q (m / sz)).1[m % sz]'(by omega)) := List.getElem?_eq_getElem (by omega)
      refine ⟨_, ?_, (hq (m / sz) hi).2.2 (m % sz) _ d hu hd⟩
      have := hcell _ _ hu
      rw [e] at this
      exact this
theorem lies_keys {fuel : Nat} {cs : List Value} {x : DataW H × List MemPlace} (h : DataW.trod enc Tryd.prog w base sp held fuel 24 cs = some x) : ∃ (v : Value) (ks : List ByteArray), cs = [v] ∧ Lies w fuel v (.sl 1 ks.length (skeys ks)) := by
  obtain ⟨v, l, h1, h2⟩ := lies_slice (α := ByteArray) (fun s => [C.str s]) Tryd.underlying24 cells_string (by decide) (fun _ => rfl) (fun n cs' y _ hy => by
    obtain ⟨s, rfl, _, hs⟩ := DataW.trod_string Tryd.underlying9 hy
    cases n with
    | zero => simp [DataW.trod] at hy
    | succ n => exact ⟨s, LiesS.cons ⟨rfl, hs⟩ LiesS.nil⟩) h
  refine ⟨v, l, h1, ?_⟩
  have e : ∀ l : List ByteArray, l.flatMap (fun s => [C.str s]) = skeys l := fun l => by
    induction l with
    | nil => rfl
    | cons a r ih => rw [List.flatMap_cons, ih]; rfl
  rw [← e]
  exact h2
instance : Inhabited T := ⟨zero⟩
set_option maxRecDepth 100000 in
/-- A tree that reads. -/
theorem lies_tree : ∀ (fuel : Nat) (cs : List Value) (x : DataW H × List MemPlace), DataW.trod enc Tryd.prog w base sp held fuel 27 cs = some x → ∃ t, LiesS w fuel cs (row t) := by
  intro fuel
  induction fuel using Nat.strongRecOn with
  | ind fuel ih =>
    intro cs x h
    obtain ⟨xs, n, rfl, _, hl, hxl, hf⟩ := DataW.trod_struct Tryd.underlying27 h
    rw [cells_tree] at hl
    have hxl6 : xs.length = 6 := hxl
    obtain ⟨u0, u1, u2, u3, u4, u5, rfl⟩ := six_of hl
    obtain ⟨y0, y1, y2, y3, y4, y5, rfl⟩ := six_of hxl6
    have f0 := hf 0 _ rfl
    have f1 := hf 1 _ rfl
    have f2 := hf 2 _ rfl
    have f3 := hf 3 _ rfl
    have f4 := hf 4 _ rfl
    have f5 := hf 5 _ rfl
    simp only [cells_int, cells_bool, cells_string, cells_keys, cells_kids, List.drop_zero, List.drop_succ_cons, List.take_succ_cons, List.take_zero, List.getElem?_cons_zero, List.getElem?_cons_succ] at f0 f1 f2 f3 f4 f5
    obtain ⟨k, e0, _, w0⟩ := DataW.trod_int Tryd.underlying3 f0
    obtain ⟨b, e1, _⟩ := DataW.trod_bool Tryd.underlying4 f1
    obtain ⟨m, e2, _, w2⟩ := DataW.trod_int Tryd.underlying3 f2
    obtain ⟨s, e3, _, w3⟩ := DataW.trod_string Tryd.underlying9 f3
    obtain ⟨v4, ks, e4, l4⟩ := lies_keys f4
    obtain ⟨v5, kids, e5, l5⟩ := lies_slice (α := T) row Tryd.underlying25 cells_tree (by decide) row_length (fun n' cs' y hn hy => ih n' (by omega) cs' y hy) f5
    injection e0 with e0
    injection e1 with e1
    injection e2 with e2
    injection e3 with e3
    injection e4 with e4
    injection e5 with e5
    subst e0 e1 e2 e3 e4 e5
    refine ⟨.mk k b m s ks kids, ?_⟩
    rw [row, rows_flat]
    cases n with
    | zero => simp [DataW.trod] at f0
    | succ n =>
      have l0 : Lies w (n + 1) (.int .i64 k) (.int .i64 k) := ⟨rfl, w0⟩
      have l1 : Lies w (n + 1) (.bool b) (.bool b) := rfl
      have l2 : Lies w (n + 1) (.int .i64 m) (.int .i64 m) := ⟨rfl, w2⟩
      have l3 : Lies w (n + 1) (.string s) (.str s) := ⟨rfl, w3⟩
      exact (LiesS.cons l0 (LiesS.cons l1 (LiesS.cons l2 (LiesS.cons l3 (LiesS.cons l4 (LiesS.cons l5 LiesS.nil)))))).deeper (Nat.le_succ _)
set_option maxRecDepth 100000 in
/-- As a row opens it. -/
theorem open_law_tree {r : Reach} {b0 : Nat} {v : Value} {d : DataW H} {ps : List MemPlace}
    (hval : Value.okWide Tryd.prog w r b0 27 v) (hd : DataW.Trod enc Tryd.prog w base sp held 27 v d ps) : ∃ (t : T) (f : Nat) (vs : List Value), v = .agg vs.toArray ∧ LiesS w f vs (row t) := by
  obtain ⟨cs, rfl, hsz⟩ := okWide_struct Tryd.underlying27 hval
  obtain ⟨fuel, hf⟩ := hd
  obtain ⟨l⟩ := cs
  obtain ⟨t, ht⟩ := lies_tree fuel _ _ hf
  exact ⟨t, fuel, l, rfl, by simpa [Value.cells] using ht⟩
end
end Go.Proofs.YtangdmjdjiddcaaDoor.tree
