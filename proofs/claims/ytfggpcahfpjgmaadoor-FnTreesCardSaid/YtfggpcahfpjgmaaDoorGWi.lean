/- Merged: GrowI CatI WithM2. -/
import Derived.Test.YtfggpcahfpjgmaaDoorGTree
import Derived.Lib.AppendZeros
import Derived.Lib.AppendZerosOnto
import Derived.Lib.SliceRun
import Derived.WalkKit
import Derived.Lib.Walk
namespace Go.Proofs.YtfggpcahfpjgmaaDoor.tree
open Go.ChangeShapes Go.WideShapes Go.ChangeAt Go.RowKit Go.Lib
set_option linter.unusedVariables false

theorem grow_run {t tn ty e : TypeId} {i : TypeInfo} {z : Value} {k : IntKind} (ht : Tryd.prog.underlying t = some (.slice e)) (htn : Tryd.prog.underlying tn = some (.int k)) (hi : Tryd.prog.info? e = some i) (hz : i.zero = some z) (w : World) (n : Nat) (h0 : 0 < n) (hs : 0 < i.size) (hn : n ≤ 1099511627776) (hb : i.bytes ≤ 88) :
    (Builtin.append_ #[t, tn] ty #[.slice none 0 0, .int .i64 n]).run Tryd.prog w = .ok (.slice (some ⟨w.heap.size, 0, none⟩) n (grownCap w n 0 e)) (w.drew.alloc (.cells (Builtin.zeroCells z.cells n ++ Builtin.zeroCells z.cells (grownCap w n 0 e - n)) e)) := by
  have hm : n * i.bytes ≤ 1099511627776 * 88 := Nat.mul_le_mul hn hb
  have h := Lib.run_append_grow_zeros w t tn ty e i z .i64 k ht htn hi hz none 0 0 [] (run_firstCells_none w.drew i.size 0 0 0) n h0 hs (by omega) (by omega) (by omega) (by rw [Nat.zero_add]; exact growslice_fits h0 (by omega))
  rw [Nat.zero_add] at h
  simpa using h

theorem grow_own {w : World} {e : TypeId} {z : Value} {size n : Nat} (hz : z.cells.size = size) (hn : n ≤ 1099511627776) :
    (w.drew.alloc (.cells (Builtin.zeroCells z.cells n ++ Builtin.zeroCells z.cells (grownCap w n 0 e - n)) e)).ownsRow w.heap.size e size (.slice (some ⟨w.heap.size, 0, none⟩) 0 (grownCap w n 0 e)) 0 [] := by
  have hg := grownCap_ge w n 0 e
  refine ⟨by simp, .inr ⟨w.heap.size, _, _, rfl, Nat.le_refl _, heap_alloc_new w.drew _, Nat.zero_le _, grownCap_le_maxLen w n 0 e (by unfold maxLen; omega), ?_, by simp⟩⟩
  simp only [Array.size_append, size_zeroCells, hz]
  rw [← Nat.add_mul]
  congr 1
  omega

theorem grow_strs (n : Nat) (w : World) (hn : n ≤ 1099511627776) : Calls Tryd.prog 50 #[.slice none 0 0, .int .i64 n] w fun e w' => ∃ v, e = .returned v ∧ w'.ownsRow w.heap.size 9 1 v 0 [] ∧ Below w.heap.size w w' := by
  obtain ⟨i0, hi, hz0, hz1, hz2⟩ := info_parts TrydinfoStr'
  have h1 : ¬ ((n : Int) < 0) := by omega
  by_cases h0 : 0 < n
  · have Hr := Lib.hid (fun ty => grow_run (ty := ty) Tryd.underlying24 Tryd.underlying3 hi hz0 w n h0 (by omega) hn (by omega))
    have Ho := Lib.hid (grow_own (w := w) (e := 9) (n := n) (z := .string ⟨#[]⟩) (size := 1) rfl hn)
    have hp : (n : Int) > 0 := by omega
    have hG : grownCap w n 0 9 ≤ 9223372036854775807 := by
      have := grownCap_le_maxLen w n 0 9 (by unfold maxLen; omega)
      unfold maxLen at this
      omega
    have hGn := grownCap_ge w n 0 9
    clear hz0 hz1 hz2 hi
    go_enter Tryd.func50, Tryd.ntmps50
    go_wp2_with (at_builtin; refine Lib.wpList_append_run _ rfl _ _ _ _ rfl _ _ rfl rfl _ _ (Hr.out _) ?_)
    go_ret
    exact ⟨_, rfl, Ho.out, ((Below.refl _ _).alloc (Nat.le_refl _) _).drew⟩
  · obtain rfl : n = 0 := by omega
    go_enter Tryd.func50, Tryd.ntmps50
    go_wp2_with fail
    go_ret
    exact ⟨_, rfl, ⟨by simp, .inl ⟨rfl, rfl⟩⟩, Below.refl _ _⟩

theorem grow_trees (n : Nat) (w : World) (hn : n ≤ 1099511627776) : Calls Tryd.prog 51 #[.slice none 0 0, .int .i64 n] w fun e w' => ∃ v, e = .returned v ∧ w'.ownsRow w.heap.size 27 6 v 0 [] ∧ Below w.heap.size w w' := by
  obtain ⟨i0, hi, hz0, hz1, hz2⟩ := info_parts TrydinfoTree'
  have h1 : ¬ ((n : Int) < 0) := by omega
  by_cases h0 : 0 < n
  · have Hr := Lib.hid (fun ty => grow_run (ty := ty) Tryd.underlying25 Tryd.underlying3 hi hz0 w n h0 (by omega) hn (by omega))
    have Ho := Lib.hid (grow_own (w := w) (e := 27) (n := n) (z := .agg #[.int .i64 0, .bool false, .int .i64 0, .string ⟨#[]⟩, .slice none 0 0, .slice none 0 0]) (size := 6) rfl hn)
    have hp : (n : Int) > 0 := by omega
    have hG : grownCap w n 0 27 ≤ 9223372036854775807 := by
      have := grownCap_le_maxLen w n 0 27 (by unfold maxLen; omega)
      unfold maxLen at this
      omega
    have hGn := grownCap_ge w n 0 27
    clear hz0 hz1 hz2 hi
    go_enter Tryd.func51, Tryd.ntmps51
    go_wp2_with (at_builtin; refine Lib.wpList_append_run _ rfl _ _ _ _ rfl _ _ rfl rfl _ _ (Hr.out _) ?_)
    go_ret
    exact ⟨_, rfl, Ho.out, ((Below.refl _ _).alloc (Nat.le_refl _) _).drew⟩
  · obtain rfl : n = 0 := by omega
    go_enter Tryd.func51, Tryd.ntmps51
    go_wp2_with fail
    go_ret
    exact ⟨_, rfl, ⟨by simp, .inl ⟨rfl, rfl⟩⟩, Below.refl _ _⟩
end Go.Proofs.YtfggpcahfpjgmaaDoor.tree
namespace Go.Proofs.YtfggpcahfpjgmaaDoor.tree
open Go.ChangeShapes Go.WideShapes Go.ChangeAt Go.RowKit
set_option linter.unusedVariables false

/-- A slice's elements, so many cells each, read. -/
def RdN (w : World) (size : Nat) (A : Option Addr) (m : Nat) (xs : List Value) : Prop :=
  xs.length = m * size ∧ (∀ u ∈ xs, u.oneCell' = true) ∧ (0 < m → ∃ g o, A = some ⟨g, o, none⟩ ∧ g < w.heap.size ∧ ∀ j u, xs[j]? = some u → w.cell? ⟨g, o + j, none⟩ = some u)
theorem RdN.below {w w' : World} {size : Nat} {A : Option Addr} {m : Nat} {xs : List Value} (h : RdN w size A m xs) (hb : Below w.heap.size w w') : RdN w' size A m xs :=
  ⟨h.1, h.2.1, fun hm => by
    obtain ⟨g, o, e, hg, hc⟩ := h.2.2 hm
    exact ⟨g, o, e, Nat.lt_of_lt_of_le hg hb.size, fun j u hu => (World.cell?_of_block (hb.block g hg)).trans (hc j u hu)⟩⟩
theorem wpList_append_rdn {P : Program} {w : World} {ops : Array Oper} {rest : List Oper} {o : Oper} {a : Act} {Q : Exit → Act → World → Prop} (hgd : o.guard = none) (s x : Operand) (t : TypeId)
    (ho : o.op = .call { callee := .builtin .append, args := #[s, x], argTypes := #[t, t] })
    (base : Nat) (e : TypeId) (i : TypeInfo) (z : Value) (size bytes : Nat) (ht : P.underlying t = some (.slice e)) (hi : P.info? e = some i) (hz : i.zero = some z)
    (hsize : i.size = size) (hby : i.bytes = bytes) (hzs : z.cells.size = size) (hs0 : 0 < size)
    (v : Value) (n : Nat) (xs : List Value) (hs : a.eval s = v) (hown : w.ownsRow base e size v n xs)
    (A : Option Addr) (m c : Nat) (news : List Value) (hx : a.eval x = .slice A m c) (hr : RdN w size A m news)
    (h63 : n + m ≤ maxLen) (hbytes : (n + m) * bytes ≤ 140737488355328) (hbase : base ≤ w.heap.size)
    (h : ∀ v' w', w'.ownsRow base e size v' (n + m) (xs ++ news) → w.grownBy w' v.ownBlock → (v'.ownBlock = v.ownBlock ∨ v'.ownBlock = some w.heap.size) → wpList P ops Q rest (a.put o.dst v') w') :
    wpList P ops Q (o :: rest) a w := by
  refine wpList_plain hgd fun K hK => ?_
  have hrun : ∃ v' w', (Builtin.append_ #[t, t] o.type #[v, .slice A m c]).run P w = .ok v' w' ∧ w'.ownsRow base e size v' (n + m) (xs ++ news) ∧ w.grownBy w' v.ownBlock ∧ (v'.ownBlock = v.ownBlock ∨ v'.ownBlock = some w.heap.size) := by
    cases A with
    | none =>
      have hm : m = 0 := by
        rcases Nat.eq_zero_or_pos m with h | h
        · exact h
        · obtain ⟨g, o, hg, _⟩ := hr.2.2 h
          cases hg
      subst hm
      have hn : news = [] := List.eq_nil_of_length_eq_zero (by rw [hr.1]; omega)
      subst hn
      refine ⟨v, w, ?_, by simpa using hown, World.grownBy.refl _ _, .inl rfl⟩
      rcases hown.2 with ⟨rfl, rfl⟩ | ⟨g, cap, cur, rfl, _, _, hnc, _⟩
      · simp [Builtin.append_, run_underlying ht, sizeOf, typeInfo, hi, Builtin.lenOf, Builtin.firstCells]
      · simp [Builtin.append_, run_underlying ht, sizeOf, typeInfo, hi, Builtin.lenOf, Builtin.firstCells, hnc, storeCells]
    | some ad =>
      obtain ⟨v', w', r0, r1, r2, _, r3⟩ := run_append_own_at (P := P) w base t o.type e i z size bytes ht hi hz hsize hby hzs hs0 v n xs hown ad m c news hr.1 (fun j u hu => by
        have hj := (List.getElem?_eq_some_iff.1 hu).1
        have hm : 0 < m := by
          rcases Nat.eq_zero_or_pos m with h | h
          · rw [hr.1, h, Nat.zero_mul] at hj; exact absurd hj (Nat.not_lt_zero _)
          · exact h
        obtain ⟨g, o', hg, _, hc⟩ := hr.2.2 hm
        injection hg with hg
        subst hg
        rw [Addr.add_lit]
        exact hc j u hu) hr.2.1 h63 hbytes hbase
      exact ⟨v', w', r0, r1, r2, r3⟩
  obtain ⟨v', w', hr', h2, h3, h5⟩ := hrun
  unfold Oper.wp execOp
  simp only [ho, resolve, invoke, builtin, Sem.run_bind, Sem.run_pure, Result.andThen_ok, List.map_toArray, List.map_cons, List.map_nil, hs, hx, hr']
  exact hK _ _ (h v' w' h2 h3 h5)

structure Part where
  addr : Option Addr
  len : Nat
  cap : Nat
  cells : List Value
def pcells (ps : List Part) : List Value := ps.map fun p => .slice p.addr p.len p.cap
def total : List Part → Nat
  | [] => 0
  | p :: r => p.len + total r
def joined (ps : List Part) : List Value := (ps.map Part.cells).flatten
theorem pcells_get (ps : List Part) (j : Nat) (h : j < ps.length) : (pcells ps)[j]? = some (.slice ps[j].addr ps[j].len ps[j].cap) := by
  simp [pcells, List.getElem?_map, List.getElem?_eq_getElem h]
theorem joined_next {ps : List Part} {j : Nat} (h : j < ps.length) : joined (ps.take (j + 1)) = joined (ps.take j) ++ ps[j].cells := by
  unfold joined
  rw [List.take_succ_eq_append_getElem h]
  simp only [List.map_append, List.flatten_append, List.map_cons, List.map_nil, List.flatten_cons, List.flatten_nil, List.append_nil]
theorem total_append : ∀ a b : List Part, total (a ++ b) = total a + total b
  | [], b => by simp [total]
  | p :: r, b => by rw [List.cons_append, total, total, total_append r b]; omega
theorem total_next {ps : List Part} {j : Nat} (h : j < ps.length) : total (ps.take (j + 1)) = total (ps.take j) + ps[j].len := by
  rw [List.take_succ_eq_append_getElem h, total_append]
  simp [total]
theorem total_le {ps : List Part} (j : Nat) : total (ps.take j) ≤ total ps := by
  have h := total_append (ps.take j) (ps.drop j)
  rw [List.take_append_drop] at h
  omega


set_option maxRecDepth 1000000 in
set_option maxHeartbeats 4000000 in
theorem concat_strs (A : Option Addr) (c : Nat) (ps : List Part) (w : World) (hc : ps.length ≤ c) (hcm : c ≤ 1048576) (hr : Rd w A ps.length (pcells ps))
    (hp : ∀ p ∈ ps, p.len ≤ p.cap ∧ p.cap ≤ maxLen ∧ RdN w 1 p.addr p.len p.cells) (ht : total ps ≤ 1099511627776) :
    Calls Tryd.prog 35 #[.slice A ps.length c] w fun e w' => ∃ v, e = .returned v ∧ w'.ownsRow w.heap.size 9 1 v (total ps) (joined ps) ∧ Below w.heap.size w w' := by
  obtain ⟨i0, hi, hz0, hz1, hz2⟩ := info_parts TrydinfoStr'
  have HR := Lib.hid hr
  have HP := Lib.hid hp
  have HT := Lib.hid ht
  have HG := Lib.hid (fun n w' (h : n ≤ 1099511627776) => grow_strs n w' h)
  have HC := Lib.hid hc
  have HCM := Lib.hid hcm
  have hcs : c ≤ 9223372036854775807 := by omega
  clear hr hp ht hcm
  go_enter Tryd.func35, Tryd.ntmps35
  go_wp2_with fail
  go_loopw [3, 11] (fun s i wr => ∃ (j : Nat), j ≤ ps.length ∧ i = .int .i64 j ∧ s = .int .i64 (total (ps.take j) : Nat) ∧ ∃ q, wr = w.drewN q) (fun s i _ => ps.length - (intOf i).toNat)
  case atStart => exact ⟨0, Nat.zero_le _, rfl, by simp [total], 0, rfl⟩
  case round =>
    obtain ⟨j, hj, rfl, rfl, q, rfl⟩ := hrel
    by_cases hlt : j < ps.length
    · obtain ⟨g, o, rfl, hg, hc0⟩ := HR.out.2 (by omega)
      have hcell := hc0 j hlt _ (pcells_get ps j hlt)
      clear hc0 hg
      have hn := total_next hlt
      have hle := total_le (ps := ps) (j + 1)
      have hT := HT.out
      have Hn := Lib.hid (show (total (ps.take (j + 1)) : Int) = (total (ps.take j) : Int) + (ps[j].len : Int) by rw [hn]; omega)
      have hpos : ¬ ((total (ps.take j) : Int) + (ps[j].len : Int) < 0) := by omega
      have hbd : (total (ps.take j) : Int) + (ps[j].len : Int) ≤ 9223372036854775807 := by omega
      clear hn hle hT
      generalize total (ps.take j) = a at Hn hpos hbd
      generalize ps[j].len = b at Hn hcell hpos hbd
      generalize ps[j].addr = p1 at hcell
      generalize ps[j].cap = p2 at hcell
      go_wp2_with fail
      go_roundw
      case rel => exact ⟨j + 1, by omega, by go_num, by rw [Hn.out], _, rfl⟩
      case measure => simp [intOf]; omega
    · obtain rfl : j = ps.length := by omega
      rw [List.take_of_length_le (Nat.le_refl _)]
      go_wp2_with fail
      refine (HG.out _ _ HT.out).mono ?_
      rintro e w2 ⟨v, rfl, hown, hb2⟩
      have Hown := Lib.hid hown
      have Hb2 := Lib.hid (show Below w.heap.size w w2 from (below_drewN (Below.refl _ _) q).trans hb2)
      clear hown hb2
      go_wp2_with fail
      go_loopw [6, 27] (fun v i wr => ∃ (j : Nat), j ≤ ps.length ∧ i = .int .i64 j ∧ wr.ownsRow w.heap.size 9 1 v (total (ps.take j)) (joined (ps.take j)) ∧ Below w.heap.size w wr) (fun _ i _ => ps.length - (intOf i).toNat)
      case atStart => exact ⟨0, Nat.zero_le _, rfl, by simpa [joined, total] using Hown.out, Hb2.out⟩
      case round =>
        obtain ⟨j, hj, rfl, hown, hbel⟩ := hrel
        by_cases hlt : j < ps.length
        · obtain ⟨g, o, rfl, hg, hc0⟩ := (HR.out.below hbel).2 (by omega)
          have hcell := hc0 j hlt _ (pcells_get ps j hlt)
          clear hc0 hg
          have hle := total_le (ps := ps) (j + 1)
          have hT := HT.out
          rw [total_next hlt] at hle
          have Hn := Lib.hid (joined_next hlt)
          have Hm := Lib.hid (total_next hlt)
          have Hbd := Lib.hid (show total (ps.take j) + ps[j].len ≤ 1099511627776 by omega)
          have Hrp := Lib.hid ((HP.out _ (List.getElem_mem hlt)).2.2.below hbel)
          have Hbel := Lib.hid hbel
          have Hown := Lib.hid hown
          obtain ⟨Av, cv, rfl⟩ := own_is_slice hown
          clear hle hT hbel hown
          generalize ps[j] = x at hcell Hn Hm Hbd Hrp
          obtain ⟨xA, xl, xc, xs⟩ := x
          dsimp only at hcell Hn Hm Hbd Hrp
          go_wp2_with (first | (refine wpList_append_rdn rfl (.tmp 31) (.tmp 32) 24 rfl w.heap.size 9 i0 (.string ⟨#[]⟩) 1 16 Tryd.underlying24 hi hz0 hz1 hz2 rfl (by decide) _ _ _ rfl Hown.out xA xl xc xs rfl Hrp.out (by have := Hbd.out; unfold maxLen; omega) (by have := Hbd.out; omega) Hbel.out.size ?_) | fail)
          intro v1 w3 hown3 hg3 hat3
          have Hown3 := Lib.hid (show w3.ownsRow w.heap.size 9 1 v1 (total (ps.take (j + 1))) (joined (ps.take (j + 1))) by rw [Hn.out, Hm.out]; exact hown3)
          have Hb3 := Lib.hid (show Below w.heap.size w w3 from Hbel.out.grown hg3 Hbel.out.size (fun b hb => (Hown.out.lt b hb).1))
          clear hown3 hg3 hat3
          go_wp2_with fail
          go_roundw
          case rel => exact ⟨j + 1, by omega, by go_num, Hown3.out, Hb3.out⟩
          case measure => simp [intOf]; omega
        · obtain rfl : j = ps.length := by omega
          rw [List.take_of_length_le (Nat.le_refl _)] at hown
          have Hown := Lib.hid hown
          have Hbel := Lib.hid hbel
          clear hown hbel
          go_wp2_with fail
          go_ret
          exact ⟨_, rfl, Hown.out, Hbel.out⟩


set_option maxRecDepth 1000000 in
set_option maxHeartbeats 4000000 in
theorem concat_trees (A : Option Addr) (c : Nat) (ps : List Part) (w : World) (hc : ps.length ≤ c) (hcm : c ≤ 1048576) (hr : Rd w A ps.length (pcells ps))
    (hp : ∀ p ∈ ps, p.len ≤ p.cap ∧ p.cap ≤ maxLen ∧ RdN w 6 p.addr p.len p.cells) (ht : total ps ≤ 1099511627776) :
    Calls Tryd.prog 36 #[.slice A ps.length c] w fun e w' => ∃ v, e = .returned v ∧ w'.ownsRow w.heap.size 27 6 v (total ps) (joined ps) ∧ Below w.heap.size w w' := by
  obtain ⟨i0, hi, hz0, hz1, hz2⟩ := info_parts TrydinfoTree'
  have HR := Lib.hid hr
  have HP := Lib.hid hp
  have HT := Lib.hid ht
  have HG := Lib.hid (fun n w' (h : n ≤ 1099511627776) => grow_trees n w' h)
  have HC := Lib.hid hc
  have HCM := Lib.hid hcm
  have hcs : c ≤ 9223372036854775807 := by omega
  clear hr hp ht hcm
  go_enter Tryd.func36, Tryd.ntmps36
  go_wp2_with fail
  go_loopw [3, 11] (fun s i wr => ∃ (j : Nat), j ≤ ps.length ∧ i = .int .i64 j ∧ s = .int .i64 (total (ps.take j) : Nat) ∧ ∃ q, wr = w.drewN q) (fun s i _ => ps.length - (intOf i).toNat)
  case atStart => exact ⟨0, Nat.zero_le _, rfl, by simp [total], 0, rfl⟩
  case round =>
    obtain ⟨j, hj, rfl, rfl, q, rfl⟩ := hrel
    by_cases hlt : j < ps.length
    · obtain ⟨g, o, rfl, hg, hc0⟩ := HR.out.2 (by omega)
      have hcell := hc0 j hlt _ (pcells_get ps j hlt)
      clear hc0 hg
      have hn := total_next hlt
      have hle := total_le (ps := ps) (j + 1)
      have hT := HT.out
      have Hn := Lib.hid (show (total (ps.take (j + 1)) : Int) = (total (ps.take j) : Int) + (ps[j].len : Int) by rw [hn]; omega)
      have hpos : ¬ ((total (ps.take j) : Int) + (ps[j].len : Int) < 0) := by omega
      have hbd : (total (ps.take j) : Int) + (ps[j].len : Int) ≤ 9223372036854775807 := by omega
      clear hn hle hT
      generalize total (ps.take j) = a at Hn hpos hbd
      generalize ps[j].len = b at Hn hcell hpos hbd
      generalize ps[j].addr = p1 at hcell
      generalize ps[j].cap = p2 at hcell
      go_wp2_with fail
      go_roundw
      case rel => exact ⟨j + 1, by omega, by go_num, by rw [Hn.out], _, rfl⟩
      case measure => simp [intOf]; omega
    · obtain rfl : j = ps.length := by omega
      rw [List.take_of_length_le (Nat.le_refl _)]
      go_wp2_with fail
      refine (HG.out _ _ HT.out).mono ?_
      rintro e w2 ⟨v, rfl, hown, hb2⟩
      have Hown := Lib.hid hown
      have Hb2 := Lib.hid (show Below w.heap.size w w2 from (below_drewN (Below.refl _ _) q).trans hb2)
      clear hown hb2
      go_wp2_with fail
      go_loopw [6, 27] (fun v i wr => ∃ (j : Nat), j ≤ ps.length ∧ i = .int .i64 j ∧ wr.ownsRow w.heap.size 27 6 v (total (ps.take j)) (joined (ps.take j)) ∧ Below w.heap.size w wr) (fun _ i _ => ps.length - (intOf i).toNat)
      case atStart => exact ⟨0, Nat.zero_le _, rfl, by simpa [joined, total] using Hown.out, Hb2.out⟩
      case round =>
        obtain ⟨j, hj, rfl, hown, hbel⟩ := hrel
        by_cases hlt : j < ps.length
        · obtain ⟨g, o, rfl, hg, hc0⟩ := (HR.out.below hbel).2 (by omega)
          have hcell := hc0 j hlt _ (pcells_get ps j hlt)
          clear hc0 hg
          have hle := total_le (ps := ps) (j + 1)
          have hT := HT.out
          rw [total_next hlt] at hle
          have Hn := Lib.hid (joined_next hlt)
          have Hm := Lib.hid (total_next hlt)
          have Hbd := Lib.hid (show total (ps.take j) + ps[j].len ≤ 1099511627776 by omega)
          have Hrp := Lib.hid ((HP.out _ (List.getElem_mem hlt)).2.2.below hbel)
          have Hbel := Lib.hid hbel
          have Hown := Lib.hid hown
          obtain ⟨Av, cv, rfl⟩ := own_is_slice hown
          clear hle hT hbel hown
          generalize ps[j] = x at hcell Hn Hm Hbd Hrp
          obtain ⟨xA, xl, xc, xs⟩ := x
          dsimp only at hcell Hn Hm Hbd Hrp
          go_wp2_with (first | (refine wpList_append_rdn rfl (.tmp 31) (.tmp 32) 25 rfl w.heap.size 27 i0 (.agg #[.int .i64 0, .bool false, .int .i64 0, .string ⟨#[]⟩, .slice none 0 0, .slice none 0 0]) 6 88 Tryd.underlying25 hi hz0 hz1 hz2 rfl (by decide) _ _ _ rfl Hown.out xA xl xc xs rfl Hrp.out (by have := Hbd.out; unfold maxLen; omega) (by have := Hbd.out; omega) Hbel.out.size ?_) | fail)
          intro v1 w3 hown3 hg3 hat3
          have Hown3 := Lib.hid (show w3.ownsRow w.heap.size 27 6 v1 (total (ps.take (j + 1))) (joined (ps.take (j + 1))) by rw [Hn.out, Hm.out]; exact hown3)
          have Hb3 := Lib.hid (show Below w.heap.size w w3 from Hbel.out.grown hg3 Hbel.out.size (fun b hb => (Hown.out.lt b hb).1))
          clear hown3 hg3 hat3
          go_wp2_with fail
          go_roundw
          case rel => exact ⟨j + 1, by omega, by go_num, Hown3.out, Hb3.out⟩
          case measure => simp [intOf]; omega
        · obtain rfl : j = ps.length := by omega
          rw [List.take_of_length_le (Nat.le_refl _)] at hown
          have Hown := Lib.hid hown
          have Hbel := Lib.hid hbel
          clear hown hbel
          go_wp2_with fail
          go_ret
          exact ⟨_, rfl, Hown.out, Hbel.out⟩

end Go.Proofs.YtfggpcahfpjgmaaDoor.tree
namespace Go.Proofs.YtfggpcahfpjgmaaDoor.tree
open Go.ChangeShapes Go.WideShapes Go.ChangeAt Go.RowKit
set_option linter.unusedVariables false

theorem cat_keys2 (A X : Option Addr) (i c1 m cX : Nat) (l1 l2 : List ByteArray) (key : ByteArray) (w2 : World) (hi : i ≤ c1) (hc : c1 ≤ maxLen) (hm : m ≤ cX) (hcX : cX ≤ maxLen) (hn : i + m ≤ 1048576) (hA : RdN w2 1 A i (scells l1)) (hX : RdN w2 1 X m (scells l2)) :
    Calls Tryd.prog 35 #[.slice (some ⟨w2.heap.size + 1, 0, none⟩) 3 3]
      ((w2.alloc (.cells #[.string key] 9)).alloc (.cells #[.slice A i c1, .slice (some ⟨w2.heap.size, 0, none⟩) 1 1, .slice X m cX] 24)).drew
      fun e w' => ∃ v, e = .returned v ∧ w'.ownsRow (w2.heap.size + 2) 9 1 v (i + (m + 1)) ((scells l1) ++ scells [key] ++ (scells l2)) ∧ Below w2.heap.size w2 w' := by
  obtain ⟨wa, hwa⟩ : ∃ wa, wa = w2.alloc (.cells #[.string key] 9) := ⟨_, rfl⟩
  have hsa : wa.heap.size = w2.heap.size + 1 := by rw [hwa]; simp
  have hba : Below w2.heap.size w2 wa := by rw [hwa]; exact (Below.refl _ _).alloc (Nat.le_refl _) _
  have hka : wa.heap[w2.heap.size]? = some (.cells #[.string key] 9 (0, 0)) := by rw [hwa]; exact heap_alloc_new w2 _
  rw [← hwa]
  generalize hps : (#[Value.slice A i c1, .slice (some ⟨w2.heap.size, 0, none⟩) 1 1, .slice X m cX] : Array Value) = ps
  obtain ⟨wb, hwb⟩ : ∃ wb, wb = (wa.alloc (.cells ps 24)).drew := ⟨_, rfl⟩
  have hsb : wb.heap.size = w2.heap.size + 2 := by rw [hwb]; simp [hsa]
  have hbb : Below wa.heap.size wa wb := by rw [hwb]; exact ((Below.refl _ _).alloc (Nat.le_refl _) _).drew
  have hkb : wb.heap[w2.heap.size + 1]? = some (.cells ps 24 (0, 0)) := by
    rw [hwb, ← hsa]
    exact heap_alloc_new wa _
  have hb : Below w2.heap.size w2 wb := hba.trans (hbb.mono hba.size)
  have hka2 := heap_kept hbb (heap_lt hka) hka
  rw [← hwb]
  have hr : Rd wb (some ⟨w2.heap.size + 1, 0, none⟩) 3 ps.toList := by
    rw [← hps]
    refine ⟨rfl, fun _ => ⟨_, _, rfl, by omega, fun j hj u hu => ?_⟩⟩
    rw [Nat.zero_add, cell_of_row wb _ _ _ _ _ hkb, ← hps]
    simpa using hu
  refine (concat_strs (some ⟨w2.heap.size + 1, 0, none⟩) 3 [⟨A, i, c1, (scells l1)⟩, ⟨some ⟨w2.heap.size, 0, none⟩, 1, 1, scells [key]⟩, ⟨X, m, cX, (scells l2)⟩] wb (Nat.le_refl _) (by decide) (by rw [← hps] at hr; exact hr) ?_ ?_).mono ?_
  · intro p hp
    simp only [List.mem_cons, List.not_mem_nil, or_false] at hp
    rcases hp with rfl | rfl | rfl
    · exact ⟨hi, hc, hA.below hb⟩
    · refine ⟨Nat.le_refl _, by simp [maxLen], ⟨rfl, strs_one [key], fun _ => ⟨w2.heap.size, 0, rfl, by omega, fun j u hu => ?_⟩⟩⟩
      rw [Nat.zero_add, cell_of_row wb _ _ _ _ _ hka2]
      simpa [scells] using hu
    · exact ⟨hm, hcX, hX.below hb⟩
  · simp only [total]; omega
  · rintro e w' ⟨v, rfl, hown, hb'⟩
    refine ⟨v, rfl, ?_, hb.trans (hb'.mono hb.size)⟩
    rw [hsb] at hown
    have e1 : total [⟨A, i, c1, (scells l1)⟩, ⟨some ⟨w2.heap.size, 0, none⟩, 1, 1, scells [key]⟩, ⟨X, m, cX, (scells l2)⟩] = i + (m + 1) := by
      simp only [total]
      omega
    have e2 : joined [⟨A, i, c1, (scells l1)⟩, ⟨some ⟨w2.heap.size, 0, none⟩, 1, 1, scells [key]⟩, ⟨X, m, cX, (scells l2)⟩] = (scells l1) ++ scells [key] ++ (scells l2) := by
      simp [joined]
    rw [e1, e2] at hown
    exact hown

theorem cat_trees2 (A X : Option Addr) (i c1 m cX : Nat) (xs ys us : List Value) (hu : us.length = 6) (h2 : ∀ u ∈ us, u.oneCell' = true) (w2 : World) (hi : i ≤ c1) (hc : c1 ≤ maxLen) (hm : m ≤ cX) (hcX : cX ≤ maxLen) (hn : i + m ≤ 1048576) (hA : RdN w2 6 A i xs) (hX : RdN w2 6 X m ys) :
    Calls Tryd.prog 36 #[.slice (some ⟨w2.heap.size + 1, 0, none⟩) 3 3]
      ((w2.alloc (.cells us.toArray 27)).alloc (.cells #[.slice A i c1, .slice (some ⟨w2.heap.size, 0, none⟩) 1 1, .slice X m cX] 25)).drew
      fun e w' => ∃ v, e = .returned v ∧ w'.ownsRow (w2.heap.size + 2) 27 6 v (i + (m + 1)) (xs ++ us ++ ys) ∧ Below w2.heap.size w2 w' := by
  obtain ⟨wa, hwa⟩ : ∃ wa, wa = w2.alloc (.cells us.toArray 27) := ⟨_, rfl⟩
  have hsa : wa.heap.size = w2.heap.size + 1 := by rw [hwa]; simp
  have hba : Below w2.heap.size w2 wa := by rw [hwa]; exact (Below.refl _ _).alloc (Nat.le_refl _) _
  have hka : wa.heap[w2.heap.size]? = some (.cells us.toArray 27 (0, 0)) := by rw [hwa]; exact heap_alloc_new w2 _
  rw [← hwa]
  generalize hps : (#[Value.slice A i c1, .slice (some ⟨w2.heap.size, 0, none⟩) 1 1, .slice X m cX] : Array Value) = ps
  obtain ⟨wb, hwb⟩ : ∃ wb, wb = (wa.alloc (.cells ps 25)).drew := ⟨_, rfl⟩
  have hsb : wb.heap.size = w2.heap.size + 2 := by rw [hwb]; simp [hsa]
  have hbb : Below wa.heap.size wa wb := by rw [hwb]; exact ((Below.refl _ _).alloc (Nat.le_refl _) _).drew
  have hkb : wb.heap[w2.heap.size + 1]? = some (.cells ps 25 (0, 0)) := by
    rw [hwb, ← hsa]
    exact heap_alloc_new wa _
  have hb : Below w2.heap.size w2 wb := hba.trans (hbb.mono hba.size)
  have hka2 := heap_kept hbb (heap_lt hka) hka
  rw [← hwb]
  have hr : Rd wb (some ⟨w2.heap.size + 1, 0, none⟩) 3 ps.toList := by
    rw [← hps]
    refine ⟨rfl, fun _ => ⟨_, _, rfl, by omega, fun j hj u hu => ?_⟩⟩
    rw [Nat.zero_add, cell_of_row wb _ _ _ _ _ hkb, ← hps]
    simpa using hu
  refine (concat_trees (some ⟨w2.heap.size + 1, 0, none⟩) 3 [⟨A, i, c1, xs⟩, ⟨some ⟨w2.heap.size, 0, none⟩, 1, 1, us⟩, ⟨X, m, cX, ys⟩] wb (Nat.le_refl _) (by decide) (by rw [← hps] at hr; exact hr) ?_ ?_).mono ?_
  · intro p hp
    simp only [List.mem_cons, List.not_mem_nil, or_false] at hp
    rcases hp with rfl | rfl | rfl
    · exact ⟨hi, hc, hA.below hb⟩
    · refine ⟨Nat.le_refl _, by simp [maxLen], ⟨by show us.length = 1 * 6; omega, h2, fun _ => ⟨w2.heap.size, 0, rfl, by omega, fun j u hu => ?_⟩⟩⟩
      rw [Nat.zero_add, cell_of_row wb _ _ _ _ _ hka2]
      simpa using hu
    · exact ⟨hm, hcX, hX.below hb⟩
  · simp only [total]; omega
  · rintro e w' ⟨v, rfl, hown, hb'⟩
    refine ⟨v, rfl, ?_, hb.trans (hb'.mono hb.size)⟩
    rw [hsb] at hown
    have e1 : total [⟨A, i, c1, xs⟩, ⟨some ⟨w2.heap.size, 0, none⟩, 1, 1, us⟩, ⟨X, m, cX, ys⟩] = i + (m + 1) := by
      simp only [total]
      omega
    have e2 : joined [⟨A, i, c1, xs⟩, ⟨some ⟨w2.heap.size, 0, none⟩, 1, 1, us⟩, ⟨X, m, cX, ys⟩] = xs ++ us ++ ys := by
      simp [joined]
    rw [e1, e2] at hown
    exact hown

end Go.Proofs.YtfggpcahfpjgmaaDoor.tree
