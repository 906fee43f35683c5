/- spec.SortNeeds. -/
import Derived.Test.YtdgedclpaplgoaaGreatDoorGA16
import Derived.Test.YtdgedclpaplgoaaGreatDoorGA7
import Derived.Test.YtdgedclpaplgoaaGreatDoorGA9
import Derived.Test.YtdgedclpaplgoaaGreatDoorGA6
import Derived.Deep.RegionLaw
namespace Go.Proofs.YtdgedclpaplgoaaGreatDoor.need
open Go.ChangeShapes Go.WideShapes Go.ChangeAt Go.RowKit ty lab dedup
set_option linter.unusedVariables false

theorem own_split {w : World} {B f : Nat} : ∀ (p : Nat) {xs : List Value} {ds : List C} {F : List Nat}, OwnS w B f xs ds F → ∃ F1 F2, F = F1 ++ F2 ∧ OwnS w B f (xs.take p) (ds.take p) F1 ∧ OwnS w B f (xs.drop p) (ds.drop p) F2
  | 0, xs, ds, F, h => ⟨[], F, rfl, by simpa using OwnS.nil, by simpa using h⟩
  | p + 1, xs, [], F, h => by
    obtain ⟨rfl, rfl⟩ := h.unnil
    exact ⟨[], [], rfl, by simpa using OwnS.nil, by simpa using OwnS.nil⟩
  | p + 1, xs, d :: ds, F, h => by
    obtain ⟨v, vs', G, F', rfl, rfl, h1, h2⟩ := h.uncons
    obtain ⟨F1, F2, rfl, h3, h4⟩ := own_split p h2
    exact ⟨G ++ F1, F2, by simp, by simpa using OwnS.cons h1 h3, by simpa using h4⟩
/-- One row put in between. -/
theorem own_ins {w : World} {B f k : Nat} {xs us : List Value} {cells ds : List C} {F G : List Nat} (h : OwnS w B f xs cells F) (hn : F.Nodup) (hu : OwnS w B f us ds G) (hnG : G.Nodup) (hd : ∀ x ∈ F, x ∉ G) :
    ∃ F', OwnS w B f (xs.take (k * 3) ++ us ++ xs.drop (k * 3)) (cells.take (k * 3) ++ ds ++ cells.drop (k * 3)) F' ∧ F'.Nodup ∧ ∀ x ∈ F', x ∈ F ∨ x ∈ G := by
  obtain ⟨F1, F2, rfl, h1, h2⟩ := own_split (k * 3) h
  obtain ⟨n1, n2, n3⟩ := List.nodup_append.1 hn
  refine ⟨F1 ++ G ++ F2, (h1.append hu).append h2, ?_, fun x hx => ?_⟩
  · refine List.nodup_append.2 ⟨List.nodup_append.2 ⟨n1, hnG, fun a ha b hb e => hd a (List.mem_append_left _ ha) (e ▸ hb)⟩, n2, fun a ha b hb e => ?_⟩
    rcases List.mem_append.1 ha with ha | ha
    · exact n3 a ha b hb e
    · exact hd b (List.mem_append_right _ hb) (e ▸ ha)
  · rcases List.mem_append.1 hx with hx | hx
    · rcases List.mem_append.1 hx with hx | hx
      · exact .inl (List.mem_append_left _ hx)
      · exact .inr hx
    · exact .inl (List.mem_append_right _ hx)
theorem rows_take (l : List Need) (k : Nat) : (l.flatMap Need.row).take (k * 3) = (l.take k).flatMap Need.row := by
  have hl : ∀ l : List Need, (l.flatMap Need.row).length = l.length * 3 := fun l => flat_length' (f := Need.row) (sz := 3) Need.row_length l
  by_cases h : k ≤ l.length
  · have e : l.flatMap Need.row = (l.take k).flatMap Need.row ++ (l.drop k).flatMap Need.row := by rw [← List.flatMap_append, List.take_append_drop]
    have e2 : k * 3 = ((l.take k).flatMap Need.row).length := by rw [hl, List.length_take]; omega
    rw [e, e2, List.take_left]
  · rw [List.take_of_length_le (by rw [hl]; omega), List.take_of_length_le (by omega)]
theorem rows_drop (l : List Need) (k : Nat) : (l.flatMap Need.row).drop (k * 3) = (l.drop k).flatMap Need.row := by
  have hl : ∀ l : List Need, (l.flatMap Need.row).length = l.length * 3 := fun l => flat_length' (f := Need.row) (sz := 3) Need.row_length l
  by_cases h : k ≤ l.length
  · have e : l.flatMap Need.row = (l.take k).flatMap Need.row ++ (l.drop k).flatMap Need.row := by rw [← List.flatMap_append, List.take_append_drop]
    have e2 : k * 3 = ((l.take k).flatMap Need.row).length := by rw [hl, List.length_take]; omega
    rw [e, e2, List.drop_left]
  · rw [List.drop_of_length_le (by rw [hl]; omega), List.drop_of_length_le (by omega)]; rfl
theorem wt_out (l : List Need) : wsum Need.wt (outN l) ≤ wsum Need.wt l := by
  refine Nat.le_trans (sum_dsort lessN Need.wt (l.map normN)) ?_
  induction l with
  | nil => simp [wsum]
  | cons x l ih =>
    have h1 : (normN x).wt ≤ x.wt := by
      have h1 := dsort_length lessB x.values
      have h2 := sum_dsort lessB Str.wt x.values
      unfold Need.wt normN
      simp only
      omega
    simp only [wsum, List.map_cons, List.sum_cons] at ih ⊢
    omega
/-- The first append of the region: onto a new slice that is empty. -/
theorem stepN_first {ops : Array Oper} {o : Oper} {a : Act} {X wd : World} {K : Act → World → Prop} {Q : Exit → Act → World → Prop} {E : Prop}
    (hg : o.guard = none) (hop : o.op = Op.call { callee := Callee.builtin Builtin.append, args := #[.tmp 68, .tmp 71], argTypes := #[24, 24] })
    (b : Nat) (hs : a.eval (.tmp 68) = .slice (some ⟨b, 0, none⟩) 0 0) (hX : Below wd.heap.size wd X) (hown : X.ownsRow wd.heap.size 31 3 (.slice (some ⟨b, 0, none⟩) 0 0) 0 [])
    (A : Option Addr) (k c : Nat) (news : List Value) (hx : a.eval (.tmp 71) = .slice A k c) (hr : RdK wd A k 3 news) (h1 : ∀ u ∈ news, u.oneCell' = true) (hk : k ≤ 64)
    (hK : ∀ v' w', w'.ownsRow wd.heap.size 31 3 v' k news → Below wd.heap.size wd w' → X.heap.size ≤ w'.heap.size → (∀ q, q < X.heap.size → q ≠ b → w'.heap[q]? = X.heap[q]?) → K (a.put o.dst v') w') :
    if Region.wanted o (yielded ops a.tmps) = true then Oper.wp Tryz.prog o a X K Q else E := by
  obtain ⟨i0, hi, hz0, hz1, hz2⟩ := info_parts TryzinfoNeed
  refine step_append_rdk hg (.tmp 68) (.tmp 71) 24 hop wd.heap.size 31 i0 _ 3 48 Tryz.underlying24 hi hz0 hz1 hz2 rfl (by decide) _ 0 [] hs hown A k c news hx (hr.below hX) h1 (by unfold maxLen; omega) (by omega) hX.size ?_
  intro v' w' h1 h2 h3
  rw [Nat.zero_add, List.nil_append] at h1
  refine hK v' w' h1 (hX.grown h2 hX.size (fun q hq => (hown.lt q hq).1)) h2.size (fun q hq hb => h2.block q hq (fun e => hb (by simp [Value.ownBlock] at e; omega)))
/-- The second one: of one row. -/
theorem stepN_second {ops : Array Oper} {o : Oper} {a : Act} {Y wd : World} {K : Act → World → Prop} {Q : Exit → Act → World → Prop} {E : Prop}
    (hg : o.guard = none) (hop : o.op = Op.call { callee := Callee.builtin Builtin.append, args := #[.tmp 72, .tmp 74], argTypes := #[24, 24] })
    (v : Value) (k : Nat) (news us : List Value) (hs : a.eval (.tmp 72) = v) (hY : Below wd.heap.size wd Y) (hown : Y.ownsRow wd.heap.size 31 3 v k news)
    (A : Option Addr) (hx : a.eval (.tmp 74) = .slice A 1 1) (hr : RdK Y A 1 3 us) (h1 : ∀ u ∈ us, u.oneCell' = true) (hk : k ≤ 64)
    (hK : ∀ v' w', w'.ownsRow wd.heap.size 31 3 v' (k + 1) (news ++ us) → Below wd.heap.size wd w' → K (a.put o.dst v') w') :
    if Region.wanted o (yielded ops a.tmps) = true then Oper.wp Tryz.prog o a Y K Q else E := by
  obtain ⟨i0, hi, hz0, hz1, hz2⟩ := info_parts TryzinfoNeed
  refine step_append_rdk hg (.tmp 72) (.tmp 74) 24 hop wd.heap.size 31 i0 _ 3 48 Tryz.underlying24 hi hz0 hz1 hz2 rfl (by decide) v k _ hs hown A 1 1 us hx hr h1 (by unfold maxLen; omega) (by omega) hY.size ?_
  intro v' w' h1 h2 h3
  exact hK v' w' h1 (hY.grown h2 hY.size (fun q hq => (hown.lt q hq).1))
theorem litN1 (w : World) : ((w.alloc (.cells #[] 31)).drew).ownsRow w.heap.size 31 3 (.slice (some ⟨w.heap.size, 0, none⟩) 0 0) 0 [] :=
  World.ownsRow_lit w #[] 0 (Nat.le_refl _) (by simp [maxLen]) rfl
theorem litN2 (w : World) (p : Obj) : (((w.alloc (.cells #[] 31)).alloc p).drew).ownsRow w.heap.size 31 3 (.slice (some ⟨w.heap.size, 0, none⟩) 0 0) 0 [] :=
  own_below' (World.ownsRow_lit w #[] 0 (Nat.le_refl _) (by simp [maxLen]) rfl) ((Below.refl _ _).alloc (Nat.le_refl _) p).drew
theorem litN3 (w : World) (p : Obj) : (((w.alloc p).alloc (.cells #[] 31)).drew).ownsRow w.heap.size 31 3 (.slice (some ⟨w.heap.size + 1, 0, none⟩) 0 0) 0 [] := by
  have e : w.heap.size + 1 = (w.alloc p).heap.size := by simp
  rw [e]
  exact own_lower' (World.ownsRow_lit (w.alloc p) #[] 0 (Nat.le_refl _) (by simp [maxLen]) rfl) (by simp)
theorem rdkN2 {w w' : World} {o : Obj} {x y z : Value} (h : ∀ q, q < (((w.alloc o).alloc (.cells #[x, y, z] 31)).drew).heap.size → q ≠ w.heap.size → w'.heap[q]? = (((w.alloc o).alloc (.cells #[x, y, z] 31)).drew).heap[q]?) : RdK w' (some ⟨w.heap.size + 1, 0, none⟩) 1 3 [x, y, z] := by
  refine rdkN_row (e := 31) rfl ((h _ (by show _ < ((w.alloc o).alloc _).heap.size; simp) (by omega)).trans ?_)
  have := heap_alloc_new (w.alloc o) (.cells #[x, y, z] 31)
  have e : (w.alloc o).heap.size = w.heap.size + 1 := by simp
  rw [e] at this
  exact this
theorem rdkN3 {w w' : World} {o : Obj} {x y z : Value} (h : ∀ q, q < (((w.alloc (.cells #[x, y, z] 31)).alloc o).drew).heap.size → q ≠ w.heap.size + 1 → w'.heap[q]? = (((w.alloc (.cells #[x, y, z] 31)).alloc o).drew).heap[q]?) : RdK w' (some ⟨w.heap.size, 0, none⟩) 1 3 [x, y, z] := by
  refine rdkN_row (e := 31) rfl ((h _ (by show _ < ((w.alloc _).alloc o).heap.size; simp <;> omega) (by omega)).trans ?_)
  have e : w.heap.size < (w.alloc (.cells #[x, y, z] 31)).heap.size := by simp
  exact (Below.heap_alloc (w.alloc (.cells #[x, y, z] 31)) o w.heap.size e).trans (heap_alloc_new w _)
theorem rdkN_lit (w : World) (x y z : Value) : RdK (w.alloc (.cells #[x, y, z] 31)) (some ⟨w.heap.size, 0, none⟩) 1 3 [x, y, z] := rdkN_row rfl (heap_alloc_new w _)
theorem fewN_next {l : List Need} {j : Nat} (h : FewN l j) (hj : j < l.length) (h2 : l[j].values.length ≤ 40) : FewN l (j + 1) := fun i hi hij => by
  by_cases e : i = j
  · subst e; exact h2
  · exact h i hi (by omega)
theorem out_next {l : List Need} {j : Nat} (hj : j < l.length) : outN (l.take (j + 1)) = insD lessN (normN l[j]) (outN (l.take j)) := by
  rw [List.take_succ_eq_append_getElem hj, outN_snoc]
/-- A slice of the call's own, its elements in memory. -/
theorem els_own {w : World} {B f g d : Nat} {S : List Need} (h : OwnRow w B f 31 3 (.slice (some ⟨g, 0, none⟩) S.length d) S.length (S.flatMap Need.row)) : ∃ f', ElsAt Need.row w f' (some ⟨g, 0, none⟩) S 3 := by
  obtain ⟨F, ho, _, _⟩ := h.own
  obtain ⟨A, c, e, _, _, f', _, hk⟩ := els_of Need.row_length ho.lies
  injection e with e1 _ e3
  subst e1
  exact ⟨f', hk⟩

set_option maxRecDepth 1000000 in
set_option maxHeartbeats 16000000 in
theorem spec_sortN (l : List Need) (f : Nat) (v : Value) (w : World) (h : Lies w f v (.sl 3 l.length (l.flatMap Need.row))) (hw : l.length + wsum Need.wt l ≤ 1048576) :
    Calls Tryz.prog 9 #[v] w fun e w' => ListOut w w' e 3 Need.row (sortN l) := by
  have HCP := Lib.hid (fun w1 (hb : Below w.heap.size w w1) => spec_copyN l f v w1 (h.below hb) (by omega) (fun i hi => by have h1 := wsum_mem Need.wt hi; have h2 := wt_vals l[i]; omega))
  have HWT := Lib.hid (show (outN l).length + wsum Need.wt (outN l) ≤ 1048576 by have h1 := wt_out l; have h2 := outN_length l; omega)
  obtain ⟨A, c, rfl, hc1, hc2, f', rfl, hk⟩ := els_of Need.row_length h
  unfold maxLen at hc2
  obtain ⟨i0, hi, hz0, hz1, hz2⟩ := info_parts TryzinfoNeed
  have Hk := Lib.hid hk
  clear h hk hw
  by_cases h40 : 40 < l.length
  · rw [sortN_no (fun h => by have := h.1; omega)]
    have HC1 := Lib.hid (HCP.out w (Below.refl _ _))
    clear HCP HWT Hk
    go_enter Tryz.func9, Tryz.ntmps9
    go_wp2_with fail
    refine HC1.out.mono ?_
    rintro e w2 ⟨x1, rfl, hrow, hb⟩
    obtain ⟨F, ho, hnd, _⟩ := hrow.own
    have HR := Lib.hid (show ListOut w w2 (.returned (.tuple #[x1, .bool false])) 3 Need.row (l, false) from ⟨_, 2, F, rfl, ho, hnd, hb⟩)
    clear hrow hb ho hnd
    go_wp2_with fail
    go_ret2
    exact HR.out
  have Hcases := Lib.hid (fun (hP : SelP (outN l)) (hF : FewN l l.length) => sortN_yes (l := l) ⟨by omega, hF, hP⟩)
  have HnoP := Lib.hid (fun (hP : ¬ SelP (outN l)) => sortN_no (l := l) (fun h => hP h.2.2))
  have HnoF := Lib.hid (fun (hF : ¬ FewN l l.length) => sortN_no (l := l) (fun h => hF h.2.1))
  obtain ⟨w1, hw1⟩ : ∃ w1, w1 = w.alloc (.cells #[] 31) := ⟨_, rfl⟩
  have hb1 : Below w.heap.size w w1 := by rw [hw1]; exact (Below.refl _ _).alloc (Nat.le_refl _) _
  have hown1 : w1.ownsRow w.heap.size 31 3 (.slice (some ⟨w.heap.size, 0, none⟩) 0 0) 0 [] := by rw [hw1]; exact World.ownsRow_lit w #[] 0 (Nat.le_refl _) (by simp [maxLen]) rfl
  have Hw1 := Lib.hid hw1
  have Hown1 := Lib.hid (OwnRow.of_lit (f := 2) hown1)
  have Hb1 := Lib.hid hb1
  clear hw1 hown1 hb1
  go_enter Tryz.func9, Tryz.ntmps9
  go_wp2_with fail
  rw [← Hw1.out]
  go_loopw [4, 5] (fun vo i wr => ∃ (j : Nat) (S : List Need) (g d : Nat), j ≤ l.length ∧ i = .int .i64 j ∧ Hid (FewN l j) ∧ S = outN (l.take j) ∧ vo = .slice (some ⟨g, 0, none⟩) S.length d ∧ OwnRow wr w.heap.size 2 31 3 (.slice (some ⟨g, 0, none⟩) S.length d) S.length (S.flatMap Need.row) ∧ Below w.heap.size w wr) (fun _ i _ => l.length - (intOf i).toNat)
  case atStart => exact ⟨0, [], w.heap.size, 0, Nat.zero_le _, rfl, (fun i hi h => by omega), rfl, rfl, Hown1.out, Hb1.out⟩
  case round =>
    clear Hown1 Hw1 Hb1
    obtain ⟨wo, rfl⟩ : ∃ wo, wo = wr := ⟨_, rfl⟩
    obtain ⟨j, S, g0, d0, hj, rfl, hfew, hS, rfl, hrow, hbel⟩ := hrel
    have hSl : S.length ≤ 40 := by have := outN_length (l.take j); rw [← hS, List.length_take] at this; omega
    by_cases hlt : j < l.length
    · obtain ⟨g, o, rfl, hg, us0, hus, hc, hls⟩ := (Hk.out.below hbel).get hlt
      obtain ⟨A2, c2, rfl, hwf, k2, m2, l2⟩ := Need.opened hls
      have q0 : wo.cell? ⟨g, o + j * 3, none⟩ = some (.string l[j].key) := hc 0 _ rfl
      have q1 : wo.cell? ⟨g, o + j * 3 + 1, none⟩ = some (.int .i64 l[j].op) := hc 1 _ rfl
      have q2 : wo.cell? ⟨g, o + j * 3 + 2, none⟩ = some (.slice A2 l[j].values.length c2) := hc 2 _ rfl
      by_cases hv40 : 40 < l[j].values.length
      · have HR0 := Lib.hid (HnoF.out (fun hF => by have := hF j hlt hlt; omega))
        have HC1 := Lib.hid (HCP.out wo hbel)
        have Hbel := Lib.hid hbel
        clear hrow hbel hus hc hls hwf l2 hg HCP hfew hS Hcases HnoP HnoF
        generalize l[j] = x at q0 q1 q2 hv40
        go_wp2_with fail
        refine HC1.out.mono ?_
        rintro e w2 ⟨x1, rfl, hrow, hb⟩
        obtain ⟨F, ho, hnd, _⟩ := (hrow.lower Hbel.out.size).own
        have HR := Lib.hid (show ListOut w w2 (.returned (.tuple #[x1, .bool false])) 3 Need.row (l, false) from ⟨_, 2, F, rfl, ho, hnd, below_link Hbel.out hb Hbel.out.size⟩)
        clear hrow hb ho hnd
        go_wp2_with fail
        go_ret2
        rw [HR0.out]
        exact HR.out
      have Hfew := Lib.hid (fewN_next hfew.out hlt (by omega))
      have Hnext := Lib.hid (out_next hlt)
      rw [← hS] at Hnext
      have Hwf := Lib.hid hwf
      have HL2 := Lib.hid (fun w' (hb : Below wo.heap.size wo w') => spec_vals l[j].values _ _ w' (l2.below hb) (by omega))
      obtain ⟨x, hx⟩ : ∃ x, x = l[j] := ⟨_, rfl⟩
      have Hx := Lib.hid hx
      rw [← hx] at k2 hv40 q0 q1 q2 Hnext Hwf HL2
      clear hls hus hc hg hwf l2 hx
      obtain ⟨xk, xo, xv⟩ := x
      simp only at k2 hv40 q0 q1 q2 HL2
      obtain ⟨w2, hw2⟩ : ∃ w2, w2 = wo.alloc (.cells #[.string xk, .int .i64 xo, .slice A2 xv.length c2] 31) := ⟨_, rfl⟩
      have hb2 : Below wo.heap.size wo w2 := by rw [hw2]; exact (Below.refl _ _).alloc (Nat.le_refl _) _
      have h2 : w2.heap[wo.heap.size]? = some (.cells #[.string xk, .int .i64 xo, .slice A2 xv.length c2] 31 (0, 0)) := by rw [hw2]; exact heap_alloc_new wo _
      have HV := Lib.hid (HL2.out w2 hb2)
      have H2 := Lib.hid h2
      have Hb2 := Lib.hid hb2
      have Hw2 := Lib.hid hw2
      have Hrow := Lib.hid hrow
      have Hbel := Lib.hid hbel
      have q02 := (hb2.cell (p := ⟨g, o + j * 3, none⟩) (World.block_lt_of_cell? _ _ q0)).trans q0
      have q12 := (hb2.cell (p := ⟨g, o + j * 3 + 1, none⟩) (World.block_lt_of_cell? _ _ q1)).trans q1
      have q22 := (hb2.cell (p := ⟨g, o + j * 3 + 2, none⟩) (World.block_lt_of_cell? _ _ q2)).trans q2
      rw [hw2] at q02 q12 q22
      have hone1 : (#[Value.string xk, .int .i64 xo, .slice A2 xv.length c2]).all (·.oneCell') = true := by simp [Value.oneCell']
      clear hb2 h2 hw2 hrow hbel HL2 hS
      go_wp2_with (first | (refine wpList_store_row rfl 31 _ _ rfl wo.heap.size #[.string xk, .int .i64 xo, .slice A2 xv.length c2] rfl rfl 31 _ (heap_alloc_new wo _) sizeNeed rfl hone1 ?_; rw [World.setRow_alloc_new]) | fail)
      rw [← Hw2.out]
      refine HV.out.mono ?_
      rintro e w4 ⟨v4, rfl, hrow4, hb4⟩
      obtain ⟨B4, d4, rfl⟩ := hrow4.is_slice
      have hlt2 := heap_lt H2.out
      have h4 := heap_kept hb4 hlt2 H2.out
      have p4 : w4.cell? ⟨wo.heap.size, 2, none⟩ = some (.slice A2 xv.length c2) := by rw [cell_of_row _ _ 2 _ _ _ h4]; rfl
      have f4 := frozen_of_row w4 _ 2 _ _ h4
      obtain ⟨G, o4, n4, g4⟩ := hrow4.own
      have Hnx := Lib.hid (show outN (l.take (j + 1)) = insD lessN ⟨xk, xo, dsort lessB xv⟩ S from Hnext.out)
      generalize dsort lessB xv = yv at o4 Hnx hrow4 ⊢
      obtain ⟨w5, hz⟩ : ∃ w5, w4.setCell ⟨wo.heap.size, 2, none⟩ (.slice B4 yv.length d4) = w5 := ⟨_, rfl⟩
      have h5 : w5.heap[wo.heap.size]? = some (.cells #[.string xk, .int .i64 xo, .slice B4 yv.length d4] 31 (0, 0)) := by rw [← hz]; exact heap_setCell_same _ _ _ _ _ _ h4
      have hb05 : Below wo.heap.size wo w5 := by rw [← hz]; exact (Hb2.out.trans (hb4.mono Hb2.out.size)).setCell (Nat.le_refl _) _
      have o5 : Own w5 w2.heap.size 2 (.slice B4 yv.length d4) (.sl 1 yv.length (yv.flatMap Str.row)) G := by rw [← hz]; exact Own.setCell_low o4 hlt2
      have hge : w.heap.size ≤ wo.heap.size := Hbel.out.size
      obtain ⟨G2, hoG, hnG, hsub⟩ := Need.owned (x := ⟨xk, xo, yv⟩) (f := 1) (show Need.Wf ⟨xk, xo, yv⟩ from Hwf.out) (o5.lower (B' := w.heap.size) (by omega)) n4
      obtain ⟨f5, hk5⟩ := els_own (Hrow.out.below hb05)
      obtain ⟨xs, F, hr0, hc5, ho0, hnd5, _⟩ := Hrow.out
      have hr5 := own_below' hr0 hb05
      have ho5 := ho0.below hb05
      have HFG := Lib.hid (show ∀ x ∈ F, x ∉ G2 from fun x hx hxG => by
        have h1 := (g4 x (hsub x hxG)).1
        have h2 := (ho0.range x hx).2
        omega)
      have Hk5 := Lib.hid hk5
      have HoG := Lib.hid (show OwnS w5 w.heap.size 2 [.string xk, .int .i64 xo, .slice B4 yv.length d4] (Need.row ⟨xk, xo, yv⟩) G2 from hoG)
      have HnG := Lib.hid hnG
      have HROW := Lib.hid (Hrow.out.below hb05)
      have Hr5 := Lib.hid hr5
      have Hc5 := Lib.hid hc5
      have Ho5 := Lib.hid ho5
      have Hn5 := Lib.hid hnd5
      have H5 := Lib.hid h5
      have Hb05 := Lib.hid (below_link Hbel.out hb05 Hbel.out.size)
      have hd0 : S.length ≤ d0 ∧ d0 ≤ 9223372036854775807 := by
        obtain ⟨c', e, h1, h2, _⟩ := own_some hr5 rfl
        injection e with _ _ e
        subst e
        exact ⟨h1, h2⟩
      obtain ⟨hcg1, hcg2⟩ := hd0
      clear hrow4 hb4 h4 o4 n4 g4 hb05 o5 hoG hnG hsub hk5 hr5 hc5 ho5 hnd5 h5 hr0 ho0 HV H2 Hb2 Hw2 Hrow Hbel Hnext Hwf q0 q1 q2 q02 q12 q22 hlt2 hone1 HWT HnoP HnoF Hcases HCP
      obtain ⟨y, hy⟩ : ∃ y : Need, y = ⟨xk, xo, yv⟩ := ⟨_, rfl⟩
      rw [← hy] at Hnx HoG
      clear hy
      go_wp2_with fail
      clear p4 f4 hz k2 m2 hv40
      go_loopw [7] (fun kv wi => ∃ k : Nat, k ≤ S.length ∧ kv = .int .i64 k ∧ Hid (∀ q (h : q < k) (h2 : q < S.length), lessN S[q] y = true) ∧ Below w5.heap.size w5 wi) (fun kv _ => S.length - (intOf kv).toNat)
      case atStart => exact ⟨0, Nat.zero_le _, rfl, fun q h => by omega, Below.refl _ _⟩
      case round =>
        obtain ⟨wi, rfl⟩ : ∃ wi, wi = wr := ⟨_, rfl⟩
        obtain ⟨k, hkj, rfl, hall, hbi⟩ := hrel
        have hi5 := heap_kept hbi (heap_lt H5.out) H5.out
        have hgi := heap_lt hi5
        have n0 : ∀ p : BelowBy wi, p.v.cell? ⟨wo.heap.size, 0, none⟩ = some (.string xk) := fun p => p.cell hgi (by rw [cell_of_row _ _ 0 _ _ _ hi5]; rfl)
        have n1 : ∀ p : BelowBy wi, p.v.cell? ⟨wo.heap.size, 1, none⟩ = some (.int .i64 xo) := fun p => p.cell hgi (by rw [cell_of_row _ _ 1 _ _ _ hi5]; rfl)
        have n2 : ∀ p : BelowBy wi, p.v.cell? ⟨wo.heap.size, 2, none⟩ = some (.slice B4 yv.length d4) := fun p => p.cell hgi (by rw [cell_of_row _ _ 2 _ _ _ hi5]; rfl)
        have hln := HoG.out.lies.kept hbi.block
        have Hbi := Lib.hid hbi
        have hk0 : (0 : Int) ≤ (k : Int) := by omega
        by_cases hkl : k < S.length
        · obtain ⟨g', o', A3, c3, hA, r0, r1, r2, hlsk⟩ := el_at Hk5.out hbi hkl
          injection hA with hA
          injection hA with e1 e2
          subst e1 e2
          simp only [Nat.zero_add] at r0 r1 r2
          have HL := Lib.hid (fun p : BelowBy wi => spec_less S[k] y f5 2 _ _ p.v (hlsk p) (hln.kept p.h.block))
          have HL2 := Lib.hid (fun p : BelowBy wi => spec_less y S[k] 2 f5 _ _ p.v (hln.kept p.h.block) (hlsk p))
          have hkn : (k : Int) < (S.length : Int) := by omega
          clear hi5 hgi hln hbi hlsk
          cases hb : lessN S[k] y with
          | true =>
            have Hnxt : Hid (∀ q (h : q < k + 1) (h2 : q < S.length), lessN S[q] y = true) := fun q h h2 => by
              by_cases e : q = k
              · subst e; exact hb
              · exact hall.out q (by omega) h2
            rw [hb] at HL
            clear hall hb HL2
            generalize S[k] = z at r0 r1 r2 HL
            go_wp2_with fail
            refine wp_region_quiet_below (by kernel_rfl) (by kernel_rfl) ?_
            repeat (refine @wpQuiet_step _ _ _ _ _ _ _ ?_; intro K hK; go_simp; first | (refine hK _ ?_; clear hK K) | (apply Exists.intro; refine ⟨fun _ => ?_, hK _ ?_⟩; (go_at_call 42; exact Calls.below_of (HL.out _)); clear hK K))
            refine wpQuiet_nil ?_
            intro _ hw'
            obtain ⟨p, rfl⟩ := hw'
            go_wp2_with fail
            go_roundw
            case rel => exact ⟨k + 1, by omega, by go_num, Hnxt.out, below_link Hbi.out p.h Hbi.out.size⟩
            case measure => simp [intOf]; omega
          | false =>
            rw [hb] at HL
            cases hb2 : lessN y S[k] with
            | false =>
              rw [hb2] at HL2
              have Hins := Lib.hid (insD_stay hkl (fun q h => hall.out q h (by omega)) hb hb2)
              clear hall hb hb2
              generalize S[k] = z at r0 r1 r2 HL HL2
              go_wp2_with fail
              refine wp_region_quiet_below (by kernel_rfl) (by kernel_rfl) ?_
              repeat (refine @wpQuiet_step _ _ _ _ _ _ _ ?_; intro K hK; go_simp; first | (refine hK _ ?_; clear hK K) | (apply Exists.intro; refine ⟨fun _ => ?_, hK _ ?_⟩; (go_at_call 42; exact Calls.below_of (HL.out _)); clear hK K))
              refine wpQuiet_nil ?_
              intro _ hw'
              obtain ⟨p0, rfl⟩ := hw'
              have Hbq := Lib.hid (below_link Hbi.out p0.h Hbi.out.size)
              have N0 : ∀ p' : BelowBy p0.v, p'.v.cell? ⟨wo.heap.size, 0, none⟩ = some (.string xk) := fun p' => n0 ⟨p'.v, p0.h.trans (p'.h.mono p0.h.size)⟩
              have N1 : ∀ p' : BelowBy p0.v, p'.v.cell? ⟨wo.heap.size, 1, none⟩ = some (.int .i64 xo) := fun p' => n1 ⟨p'.v, p0.h.trans (p'.h.mono p0.h.size)⟩
              have N2 : ∀ p' : BelowBy p0.v, p'.v.cell? ⟨wo.heap.size, 2, none⟩ = some (.slice B4 yv.length d4) := fun p' => n2 ⟨p'.v, p0.h.trans (p'.h.mono p0.h.size)⟩
              have R0 : ∀ p' : BelowBy p0.v, p'.v.cell? ⟨g0, k * 3, none⟩ = some (.string z.key) := fun p' => r0 ⟨p'.v, p0.h.trans (p'.h.mono p0.h.size)⟩
              have R1 : ∀ p' : BelowBy p0.v, p'.v.cell? ⟨g0, k * 3 + 1, none⟩ = some (.int .i64 z.op) := fun p' => r1 ⟨p'.v, p0.h.trans (p'.h.mono p0.h.size)⟩
              have R2 : ∀ p' : BelowBy p0.v, p'.v.cell? ⟨g0, k * 3 + 2, none⟩ = some (.slice A3 z.values.length c3) := fun p' => r2 ⟨p'.v, p0.h.trans (p'.h.mono p0.h.size)⟩
              have HM := Lib.hid (fun p' : BelowBy p0.v => show Calls Tryz.prog 42 #[.agg #[.string xk, .int .i64 xo, .slice B4 yv.length d4], .agg #[.string z.key, .int .i64 z.op, .slice A3 z.values.length c3]] p'.v fun e w' => e = .returned (.bool false) ∧ Below p'.v.heap.size p'.v w' from HL2.out ⟨p'.v, p0.h.trans (p'.h.mono p0.h.size)⟩)
              clear n0 n1 n2 r0 r1 r2 HL HL2 Hbi
              generalize p0.v = wq at Hbq N0 N1 N2 R0 R1 R2 HM ⊢
              clear p0
              go_wp2_with fail
              refine wp_region_quiet_below (by kernel_rfl) (by kernel_rfl) ?_
              repeat (refine @wpQuiet_step _ _ _ _ _ _ _ ?_; intro K hK; go_simp; first | (refine hK _ ?_; clear hK K) | (apply Exists.intro; refine ⟨fun _ => ?_, hK _ ?_⟩; (go_at_call 42; exact Calls.below_of (HM.out _)); clear hK K))
              refine wpQuiet_nil ?_
              intro _ hw'
              obtain ⟨p, rfl⟩ := hw'
              have Hrow7 := Lib.hid (show OwnRow p.v w.heap.size 2 31 3 (.slice (some ⟨g0, 0, none⟩) S.length d0) S.length (S.flatMap Need.row) from HROW.out.below (below_link Hbq.out p.h Hbq.out.size))
              have Hb7 := Lib.hid (below_link Hb05.out (below_link Hbq.out p.h Hbq.out.size) Hb05.out.size)
              have Hnx2 := Lib.hid (show S = outN (l.take (j + 1)) by rw [Hnx.out, Hins.out])
              go_wp2_with fail
              go_roundw
              case rel => exact ⟨j + 1, S, g0, d0, by omega, by go_num, Hfew.out, Hnx2.out, rfl, Hrow7.out, Hb7.out⟩
              case measure => simp [intOf]; omega
            | true =>
              rw [hb2] at HL2
              have Hins := Lib.hid (insD_put (Nat.le_of_lt hkl) (fun q h => hall.out q h (by omega)) (fun h => ⟨hb, hb2⟩))
              clear hall hb hb2
              generalize S[k] = z at r0 r1 r2 HL HL2
              go_wp2_with fail
              refine wp_region_quiet_below (by kernel_rfl) (by kernel_rfl) ?_
              repeat (refine @wpQuiet_step _ _ _ _ _ _ _ ?_; intro K hK; go_simp; first | (refine hK _ ?_; clear hK K) | (apply Exists.intro; refine ⟨fun _ => ?_, hK _ ?_⟩; (go_at_call 42; exact Calls.below_of (HL.out _)); clear hK K))
              refine wpQuiet_nil ?_
              intro _ hw'
              obtain ⟨p0, rfl⟩ := hw'
              have Hbq := Lib.hid (below_link Hbi.out p0.h Hbi.out.size)
              have N0 : ∀ p' : BelowBy p0.v, p'.v.cell? ⟨wo.heap.size, 0, none⟩ = some (.string xk) := fun p' => n0 ⟨p'.v, p0.h.trans (p'.h.mono p0.h.size)⟩
              have N1 : ∀ p' : BelowBy p0.v, p'.v.cell? ⟨wo.heap.size, 1, none⟩ = some (.int .i64 xo) := fun p' => n1 ⟨p'.v, p0.h.trans (p'.h.mono p0.h.size)⟩
              have N2 : ∀ p' : BelowBy p0.v, p'.v.cell? ⟨wo.heap.size, 2, none⟩ = some (.slice B4 yv.length d4) := fun p' => n2 ⟨p'.v, p0.h.trans (p'.h.mono p0.h.size)⟩
              have R0 : ∀ p' : BelowBy p0.v, p'.v.cell? ⟨g0, k * 3, none⟩ = some (.string z.key) := fun p' => r0 ⟨p'.v, p0.h.trans (p'.h.mono p0.h.size)⟩
              have R1 : ∀ p' : BelowBy p0.v, p'.v.cell? ⟨g0, k * 3 + 1, none⟩ = some (.int .i64 z.op) := fun p' => r1 ⟨p'.v, p0.h.trans (p'.h.mono p0.h.size)⟩
              have R2 : ∀ p' : BelowBy p0.v, p'.v.cell? ⟨g0, k * 3 + 2, none⟩ = some (.slice A3 z.values.length c3) := fun p' => r2 ⟨p'.v, p0.h.trans (p'.h.mono p0.h.size)⟩
              have HM := Lib.hid (fun p' : BelowBy p0.v => show Calls Tryz.prog 42 #[.agg #[.string xk, .int .i64 xo, .slice B4 yv.length d4], .agg #[.string z.key, .int .i64 z.op, .slice A3 z.values.length c3]] p'.v fun e w' => e = .returned (.bool true) ∧ Below p'.v.heap.size p'.v w' from HL2.out ⟨p'.v, p0.h.trans (p'.h.mono p0.h.size)⟩)
              clear n0 n1 n2 r0 r1 r2 HL HL2 Hbi
              generalize p0.v = wq at Hbq N0 N1 N2 R0 R1 R2 HM ⊢
              clear p0
              go_wp2_with fail
              refine wp_region_quiet_below (by kernel_rfl) (by kernel_rfl) ?_
              repeat (refine @wpQuiet_step _ _ _ _ _ _ _ ?_; intro K hK; go_simp; first | (refine hK _ ?_; clear hK K) | (apply Exists.intro; refine ⟨fun _ => ?_, hK _ ?_⟩; (go_at_call 42; exact Calls.below_of (HM.out _)); clear hK K))
              refine wpQuiet_nil ?_
              intro _ hw'
              obtain ⟨p, rfl⟩ := hw'
              obtain ⟨wd, hwd⟩ : ∃ wd, wd = p.v := ⟨_, rfl⟩
              have hbd : Below w5.heap.size w5 wd := by rw [hwd]; exact below_link Hbq.out p.h Hbq.out.size
              rw [← hwd]
              clear hwd N0 N1 N2 R0 R1 R2 HM
              have hd5 := heap_kept hbd (heap_lt H5.out) H5.out
              have e0 : wd.cell? ⟨wo.heap.size, 0, none⟩ = some (.string xk) := by rw [cell_of_row _ _ 0 _ _ _ hd5]; rfl
              have e1 : wd.cell? ⟨wo.heap.size, 1, none⟩ = some (.int .i64 xo) := by rw [cell_of_row _ _ 1 _ _ _ hd5]; rfl
              have e2 : wd.cell? ⟨wo.heap.size, 2, none⟩ = some (.slice B4 yv.length d4) := by rw [cell_of_row _ _ 2 _ _ _ hd5]; rfl
              have hgd := heap_lt hd5
              have hownd := own_below' Hr5.out hbd
              have hxl : xs.length = S.length * 3 := hownd.1
              have hrd1 := own_rdk hownd 0 0 k (by omega) (by omega)
              rw [Nat.zero_mul, List.drop_zero] at hrd1
              have hrd2 := own_rdk hownd k (k * 3) (S.length - k) rfl (by omega)
              rw [List.take_of_length_le (by rw [List.length_drop, hxl]; omega)] at hrd2
              have hones := Ho5.out.ones
              have Hones1 := Lib.hid (show ∀ u ∈ xs.take (k * 3), u.oneCell' = true from fun u hu => hones u (List.mem_of_mem_take hu))
              have Hones2 := Lib.hid (show ∀ u ∈ [Value.string xk, .int .i64 xo, .slice B4 yv.length d4], u.oneCell' = true from by intro u hu; simp at hu; rcases hu with rfl | rfl | rfl <;> rfl)
              have Hones3 := Lib.hid (show ∀ u ∈ xs.drop (k * 3), u.oneCell' = true from fun u hu => hones u (List.mem_of_mem_drop hu))
              have Hrd1 := Lib.hid hrd1
              have Hrd2 := Lib.hid hrd2
              have Hbd := Lib.hid hbd
              have Hxl := Lib.hid hxl
              have hk64 : k ≤ 64 := by omega
              have hkd : k ≤ d0 := by omega
              have hkS0 : k ≤ S.length := by omega
              clear hbd hd5 hownd hrd1 hrd2 hones hxl
              go_wp2_with fail
              go_region_law (first
                | (refine stepN_first (wd := wd) rfl rfl _ rfl ?_ ?_ (some ⟨g0, 0, none⟩) k d0 (xs.take (k * 3)) rfl Hrd1.out Hones1.out hk64 ?_
                   · first | exact belV1 _ _ | exact belV2 _ _ _
                   · first | exact litN1 _ | exact litN2 _ _ | exact litN3 _ _
                   intro v5 w5b hown5 hb5 hs5 hkeep5
                   have e05 := (World.cell?_of_block (hb5.block wo.heap.size hgd)).trans e0
                   have e15 := (World.cell?_of_block (hb5.block wo.heap.size hgd)).trans e1
                   have e25 := (World.cell?_of_block (hb5.block wo.heap.size hgd)).trans e2
                   first | have hr5 := rdkN2 hkeep5 | have hr5 := rdkN3 hkeep5 | skip)
                | (refine stepN_second (wd := wd) rfl rfl _ k (xs.take (k * 3)) [.string xk, .int .i64 xo, .slice B4 yv.length d4] rfl ?_ ?_ (some ⟨_, 0, none⟩) rfl ?_ Hones2.out hk64 ?_
                   · first | exact hb5 | exact hb5.alloc hb5.size _
                   · first | exact hown5 | exact own_below' hown5 ((Below.refl _ _).alloc (Nat.le_refl _) _)
                   · first | exact hr5 | exact rdkN_lit _ _ _ _
                   intro v6 w6 hown6 hb6))
              all_goals
                obtain ⟨g6, c6, rfl⟩ := ownV_pos hown6 (by omega)
                have Hrd6 := Lib.hid (Hrd2.out.below hb6)
                have Hown6 := Lib.hid hown6
                have Hb6 := Lib.hid hb6
                clear hown6 hb6 hown5 hb5 hs5 hkeep5 e05 e15 e25 e0 e1 e2
                go_wp2_with (first | (refine wpList_append_rdk rfl (.tmp 76) (.tmp 79) 24 rfl wd.heap.size 31 i0 _ 3 48 Tryz.underlying24 hi hz0 hz1 hz2 rfl (by decide) _ (k + 1) _ rfl Hown6.out _ (S.length - k) _ (xs.drop (k * 3)) rfl (Hrd6.out) (Hones3.out) (by unfold maxLen; omega) (by omega) Hb6.out.size ?_) | fail)
                all_goals
                  intro v7 w7 h7 hg7 hat7
                  have hb7 : Below wd.heap.size wd w7 := Hb6.out.grown hg7 Hb6.out.size (fun b hb => (Hown6.out.lt b hb).1)
                  have hO1 := Ho5.out.below Hbd.out
                  have hO2 := HoG.out.below Hbd.out
                  obtain ⟨F', hO, hN, hsub⟩ := own_ins (k := k) (hO1.below hb7) Hn5.out (hO2.below hb7) HnG.out HFG.out
                  have en : k + 1 + (S.length - k) = (outN (l.take (j + 1))).length := by
                    rw [Hnx.out, Hins.out, List.length_append, List.length_take, List.length_cons, List.length_drop]
                    omega
                  have er : (S.flatMap Need.row).take (k * 3) ++ y.row ++ (S.flatMap Need.row).drop (k * 3) = (outN (l.take (j + 1))).flatMap Need.row := by
                    rw [rows_take, rows_drop, Hnx.out, Hins.out, List.flatMap_append, List.flatMap_cons, List.append_assoc]
                  rw [er] at hO
                  simp only [List.append_assoc, List.cons_append, List.nil_append] at hO
                  rw [en] at h7
                  obtain ⟨g7, c7, rfl⟩ := ownV_pos h7 (by rw [← en]; omega)
                  have HR7 := Lib.hid (show OwnRow w7 w.heap.size 2 31 3 (.slice (some ⟨g7, 0, none⟩) (outN (l.take (j + 1))).length c7) (outN (l.take (j + 1))).length ((outN (l.take (j + 1))).flatMap Need.row) from ⟨_, F', own_lower' h7 (by have h1 := Hb05.out.size; have h2 := Hbd.out.size; omega), flat_length' (f := Need.row) (sz := 3) Need.row_length _, hO, hN, fun x hx e => by
                    have h1 := (h7.lt x e).1
                    rcases hsub x hx with h2 | h2
                    · have := (hO1.range x h2).2; omega
                    · have := (hO2.range x h2).2; omega⟩)
                  have Hb7 := Lib.hid (below_link Hb05.out (below_link Hbd.out hb7 Hbd.out.size) Hb05.out.size)
                  clear h7 hg7 hat7 hb7 hO1 hO2 hO hN hsub en er
                  go_wp2_with fail
                  go_roundw
                  case rel => exact ⟨j + 1, _, g7, c7, by omega, by go_num, Hfew.out, rfl, rfl, HR7.out, Hb7.out⟩
                  case measure => simp [intOf]; omega
        · obtain rfl : k = S.length := by omega
          have Hins := Lib.hid (insD_put (lt := lessN) (x := y) (S := S) (k := S.length) (Nat.le_refl _) (fun q h => hall.out q h h) (fun h => absurd h (Nat.lt_irrefl _)))
          clear hall hbi hi5 hgi hln n0 n1 n2
          go_wp2_with fail
          go_quiet (fail)
          obtain ⟨wd0, hwd0⟩ : ∃ wd0, wd0 = wi.drewN nq := ⟨_, rfl⟩
          have Hwd0 := Lib.hid (show Below w5.heap.size w5 wd0 by rw [hwd0]; exact below_drewN Hbi.out _)
          rw [← hwd0]
          clear hwd0 Hbi
          go_wp2_with fail
          go_quiet (fail)
          obtain ⟨wd, hwd⟩ : ∃ wd, wd = wd0.drewN nq := ⟨_, rfl⟩
          have hbd : Below w5.heap.size w5 wd := by rw [hwd]; exact below_drewN Hwd0.out _
          rw [← hwd]
          clear hwd Hwd0
          have hd5 := heap_kept hbd (heap_lt H5.out) H5.out
          have e0 : wd.cell? ⟨wo.heap.size, 0, none⟩ = some (.string xk) := by rw [cell_of_row _ _ 0 _ _ _ hd5]; rfl
          have e1 : wd.cell? ⟨wo.heap.size, 1, none⟩ = some (.int .i64 xo) := by rw [cell_of_row _ _ 1 _ _ _ hd5]; rfl
          have e2 : wd.cell? ⟨wo.heap.size, 2, none⟩ = some (.slice B4 yv.length d4) := by rw [cell_of_row _ _ 2 _ _ _ hd5]; rfl
          have hgd := heap_lt hd5
          have hownd := own_below' Hr5.out hbd
          have hxl : xs.length = S.length * 3 := hownd.1
          have hrd1 := own_rdk hownd 0 0 S.length (by omega) (by omega)
          rw [Nat.zero_mul, List.drop_zero] at hrd1
          have hrd2 := own_rdk hownd S.length (S.length * 3) (S.length - S.length) rfl (by omega)
          rw [List.take_of_length_le (by rw [List.length_drop, hxl]; omega)] at hrd2
          have hones := Ho5.out.ones
          have Hones1 := Lib.hid (show ∀ u ∈ xs.take (S.length * 3), u.oneCell' = true from fun u hu => hones u (List.mem_of_mem_take hu))
          have Hones2 := Lib.hid (show ∀ u ∈ [Value.string xk, .int .i64 xo, .slice B4 yv.length d4], u.oneCell' = true from by intro u hu; simp at hu; rcases hu with rfl | rfl | rfl <;> rfl)
          have Hones3 := Lib.hid (show ∀ u ∈ xs.drop (S.length * 3), u.oneCell' = true from fun u hu => hones u (List.mem_of_mem_drop hu))
          have Hrd1 := Lib.hid hrd1
          have Hrd2 := Lib.hid hrd2
          have Hbd := Lib.hid hbd
          have Hxl := Lib.hid hxl
          have hk64 : S.length ≤ 64 := by omega
          have hkd : S.length ≤ d0 := by omega
          have hkS0 : S.length ≤ S.length := by omega
          clear hbd hd5 hownd hrd1 hrd2 hones hxl
          go_wp2_with fail
          go_region_law (first
            | (refine stepN_first (wd := wd) rfl rfl _ rfl ?_ ?_ (some ⟨g0, 0, none⟩) S.length d0 (xs.take (S.length * 3)) rfl Hrd1.out Hones1.out hk64 ?_
               · first | exact belV1 _ _ | exact belV2 _ _ _
               · first | exact litN1 _ | exact litN2 _ _ | exact litN3 _ _
               intro v5 w5b hown5 hb5 hs5 hkeep5
               have e05 := (World.cell?_of_block (hb5.block wo.heap.size hgd)).trans e0
               have e15 := (World.cell?_of_block (hb5.block wo.heap.size hgd)).trans e1
               have e25 := (World.cell?_of_block (hb5.block wo.heap.size hgd)).trans e2
               first | have hr5 := rdkN2 hkeep5 | have hr5 := rdkN3 hkeep5 | skip)
            | (refine stepN_second (wd := wd) rfl rfl _ S.length (xs.take (S.length * 3)) [.string xk, .int .i64 xo, .slice B4 yv.length d4] rfl ?_ ?_ (some ⟨_, 0, none⟩) rfl ?_ Hones2.out hk64 ?_
               · first | exact hb5 | exact hb5.alloc hb5.size _
               · first | exact hown5 | exact own_below' hown5 ((Below.refl _ _).alloc (Nat.le_refl _) _)
               · first | exact hr5 | exact rdkN_lit _ _ _ _
               intro v6 w6 hown6 hb6))
          all_goals
            obtain ⟨g6, c6, rfl⟩ := ownV_pos hown6 (by omega)
            have Hrd6 := Lib.hid (Hrd2.out.below hb6)
            have Hown6 := Lib.hid hown6
            have Hb6 := Lib.hid hb6
            clear hown6 hb6 hown5 hb5 hs5 hkeep5 e05 e15 e25 e0 e1 e2
            go_wp2_with (first | (refine wpList_append_rdk rfl (.tmp 76) (.tmp 79) 24 rfl wd.heap.size 31 i0 _ 3 48 Tryz.underlying24 hi hz0 hz1 hz2 rfl (by decide) _ (S.length + 1) _ rfl Hown6.out _ (0) _ (([] : List Value)) rfl (RdK.nil _ _ _) (fun u hu => by cases hu) (by unfold maxLen; omega) (by omega) Hb6.out.size ?_) | fail)
            all_goals
              intro v7 w7 h7 hg7 hat7
              have hb7 : Below wd.heap.size wd w7 := Hb6.out.grown hg7 Hb6.out.size (fun b hb => (Hown6.out.lt b hb).1)
              have hO1 := Ho5.out.below Hbd.out
              have hO2 := HoG.out.below Hbd.out
              obtain ⟨F', hO, hN, hsub⟩ := own_ins (k := S.length) (hO1.below hb7) Hn5.out (hO2.below hb7) HnG.out HFG.out
              have en : S.length + 1 = (outN (l.take (j + 1))).length := by
                rw [Hnx.out, Hins.out, List.length_append, List.length_take, List.length_cons, List.length_drop]
                omega
              have er : (S.flatMap Need.row).take (S.length * 3) ++ y.row ++ (S.flatMap Need.row).drop (S.length * 3) = (outN (l.take (j + 1))).flatMap Need.row := by
                rw [rows_take, rows_drop, Hnx.out, Hins.out, List.flatMap_append, List.flatMap_cons, List.append_assoc]
              rw [er] at hO
              rw [show xs.drop (S.length * 3) = [] from List.drop_of_length_le (by rw [Hxl.out]; exact Nat.le_refl _), List.append_nil] at hO
              rw [en] at h7
              obtain ⟨g7, c7, rfl⟩ := ownV_pos h7 (by rw [← en]; omega)
              have HR7 := Lib.hid (show OwnRow w7 w.heap.size 2 31 3 (.slice (some ⟨g7, 0, none⟩) (outN (l.take (j + 1))).length c7) (outN (l.take (j + 1))).length ((outN (l.take (j + 1))).flatMap Need.row) from ⟨_, F', own_lower' h7 (by have h1 := Hb05.out.size; have h2 := Hbd.out.size; omega), flat_length' (f := Need.row) (sz := 3) Need.row_length _, hO, hN, fun x hx e => by
                have h1 := (h7.lt x e).1
                rcases hsub x hx with h2 | h2
                · have := (hO1.range x h2).2; omega
                · have := (hO2.range x h2).2; omega⟩)
              have Hb7 := Lib.hid (below_link Hb05.out (below_link Hbd.out hb7 Hbd.out.size) Hb05.out.size)
              clear h7 hg7 hat7 hb7 hO1 hO2 hO hN hsub en er
              go_wp2_with fail
              go_roundw
              case rel => exact ⟨j + 1, _, g7, c7, by omega, by go_num, Hfew.out, rfl, rfl, HR7.out, Hb7.out⟩
              case measure => simp [intOf]; omega
    · obtain rfl : j = l.length := by omega
      rw [List.take_length] at hS
      subst hS
      have Hf := Lib.hid (Hcases.out)
      obtain ⟨F, ho, hnd, _⟩ := hrow.own
      have HC := Lib.hid (spec_sel (outN l) _ _ wo ho.lies HWT.out)
      have HCO := Lib.hid (fun w1 (hb : Below wo.heap.size wo w1) => HCP.out w1 (below_link hbel hb hbel.size))
      have HR1 := Lib.hid (fun w1 (hb : Below wo.heap.size wo w1) => show ListOut w w1 (.returned (.tuple #[.slice (some ⟨g0, 0, none⟩) (outN l).length d0, .bool true])) 3 Need.row (outN l, true) from ⟨_, 2, F, rfl, ho.below hb, hnd, below_link hbel hb hbel.size⟩)
      have Hbel := Lib.hid hbel
      clear hrow ho hnd hbel HCP HWT
      by_cases hP : SelP (outN l)
      · rw [yes_t hP] at HC
        have HS := Lib.hid (Hcases.out hP hfew.out)
        clear hP hfew Hf Hcases HnoP HnoF
        go_wp2_with fail
        refine HC.out.mono ?_
        rintro e w4 ⟨rfl, hb⟩
        have HR := Lib.hid (HR1.out w4 hb)
        clear hb
        go_wp2_with fail
        go_ret2
        rw [HS.out]
        exact HR.out
      · rw [yes_f hP] at HC
        have HS := Lib.hid (HnoP.out hP)
        clear hP hfew Hf Hcases HnoP HnoF
        go_wp2_with fail
        refine HC.out.mono ?_
        rintro e w4 ⟨rfl, hb⟩
        have HC1 := Lib.hid (HCO.out w4 hb)
        have Hbel4 := Lib.hid (below_link Hbel.out hb Hbel.out.size)
        clear hb
        go_wp2_with fail
        refine HC1.out.mono ?_
        rintro e w5 ⟨x1, rfl, hrow, hb⟩
        obtain ⟨F5, ho, hnd, _⟩ := (hrow.lower Hbel4.out.size).own
        have HR := Lib.hid (show ListOut w w5 (.returned (.tuple #[x1, .bool false])) 3 Need.row (l, false) from ⟨_, 2, F5, rfl, ho, hnd, below_link Hbel4.out hb Hbel4.out.size⟩)
        clear hrow hb ho hnd
        go_wp2_with fail
        go_ret2
        rw [HS.out]
        exact HR.out
end Go.Proofs.YtdgedclpaplgoaaGreatDoor.need
