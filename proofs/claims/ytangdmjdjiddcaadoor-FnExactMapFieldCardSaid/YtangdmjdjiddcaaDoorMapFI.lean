/- impl.MapField. Printed by gen/gen_ifields.py. -/
import Derived.Test.YtangdmjdjiddcaaDoorMapInI
import Derived.Test.YtangdmjdjiddcaaDoorOrUsTI
import Derived.Test.YtangdmjdjiddcaaDoorMapNdI
import Derived.Deep.RegionHeld3
namespace Go.Proofs.YtangdmjdjiddcaaDoor.field
open Go.ChangeShapes Go.WideShapes Go.ChangeAt Go.RowKit tree
set_option linter.unusedVariables false
set_option linter.unusedSimpArgs false

theorem row6_other {w : World} {g x : Nat} {c : Array Value} {u0 u1 u2 u3 u4 u5 : Value} (h : Row6 w g u0 u1 u2 u3 u4 u5) (hx : g ≠ x) : Row6 (w.setRow x c) g u0 u1 u2 u3 u4 u5 := by
  have e : (w.setRow x c).heap[g]? = w.heap[g]? := setRow_other _ _ _ _ hx
  obtain ⟨h0, h1, h2, h3, h4, h5⟩ := h
  exact ⟨(World.cell?_of_block e).trans h0, (World.cell?_of_block e).trans h1, (World.cell?_of_block e).trans h2, (World.cell?_of_block e).trans h3, (World.cell?_of_block e).trans h4, (World.cell?_of_block e).trans h5⟩
set_option maxRecDepth 100000 in
set_option maxHeartbeats 16000000 in
theorem impl_map {f : Nat} (t : T) (p k : ByteArray) (vs : List Value) (w : World) (h : LiesS w f vs (row t)) (hw : weight t ≤ 1048576) (hp : p.size ≤ 1048576) (hk : k.size ≤ 1048576) (hE : ET w) :
  Calls Tryd.prog 31 #[.agg vs.toArray, .string p, .string k] w fun e w' => TFOut w.heap.size (mapF t p k) e w' ∧ Below w.heap.size w w' := by
  obtain ⟨u0, u1, u2, u3, u4, u5, rfl⟩ := six_of (h.1.trans (row_length t))
  obtain ⟨wa, hwa⟩ : ∃ x, x = w.alloc (.cells #[u0, u1, u2, u3, u4, u5] 35) := ⟨_, rfl⟩
  obtain ⟨wb, hwb⟩ : ∃ x, x = wa.alloc (.cells #[.int .i64 0, .bool false, .int .i64 0, .string ⟨#[]⟩, .slice none 0 0, .slice none 0 0] 35) := ⟨_, rfl⟩
  obtain ⟨w1, hw1⟩ : ∃ x, x = wb.alloc (.cells #[.int .i64 0, .int .i64 0, .string ⟨#[]⟩] 31) := ⟨_, rfl⟩
  have sa : wa.heap.size = w.heap.size + 1 := by rw [hwa]; simp
  have sb : wb.heap.size = w.heap.size + 2 := by rw [hwb]; simp [sa]
  have ba : Below w.heap.size w wa := by subst hwa; exact (Below.refl _ _).alloc (Nat.le_refl _) _
  have bb : Below w.heap.size w wb := by subst hwb; exact ba.alloc (by omega) _
  have hb1 : Below w.heap.size w w1 := by subst hw1; exact bb.alloc (by omega) _
  have h10 : w1.heap[w.heap.size]? = some (.cells #[u0, u1, u2, u3, u4, u5] 35 (0, 0)) := by subst hw1; rw [Below.heap_alloc _ _ _ (by omega)]; subst hwb; rw [Below.heap_alloc _ _ _ (by omega)]; subst hwa; exact heap_alloc_new w _
  have h11 : w1.heap[w.heap.size + 1]? = some (.cells #[.int .i64 0, .bool false, .int .i64 0, .string ⟨#[]⟩, .slice none 0 0, .slice none 0 0] 35 (0, 0)) := by subst hw1; rw [Below.heap_alloc _ _ _ (by omega)]; subst hwb; rw [← sa]; exact heap_alloc_new wa _
  have h12 : w1.heap[w.heap.size + 2]? = some (.cells #[.int .i64 0, .int .i64 0, .string ⟨#[]⟩] 31 (0, 0)) := by subst hw1; rw [← sb]; exact heap_alloc_new wb _
  have HI := Lib.hid (map_fieldIn t p k _ w1 (h.below hb1) hp hk hw)
  rw [map_in]
  have HO := Lib.hid (fun v u hv hu hov hou o w' (hb : Below w.heap.size w w') => orUsual_tree v u hv hu hov hou o w' (hE.below hb))
  have HM := Lib.hid (fun w' => map_node w')
  generalize inF zero mapR t p k = R at HI ⊢
  have Hwa := Lib.hid hwa
  have Hwb := Lib.hid hwb
  have Hb1 := Lib.hid hb1
  have Hw1 := Lib.hid hw1
  have H11 := Lib.hid h11
  have H12 := Lib.hid h12
  obtain ⟨p0, p1, p2, p3, p4, p5⟩ := Row6.of h10
  rw [Hw1.out, Hwb.out, Hwa.out] at p0 p1 p2 p3 p4 p5
  clear h h10 h11 h12 hb1 hw1 hwa hwb hp hk hw ba bb sa sb hE
  obtain ⟨rt, o⟩ := R
  simp only [MEOut] at HI
  obtain ⟨Q, hQ⟩ : ∃ Q, usF (rt, o) (.mk 6 false 0 ⟨#[]⟩ [] []) = Q := ⟨_, rfl⟩
  rw [hQ]
  obtain ⟨Qt, gc, gq⟩ := Q
  have HQ := Lib.hid hQ
  clear hQ
  go_enter Tryd.func31, Tryd.ntmps31
  go_wp2_with fail
  rw [← Hwa.out, ← Hwb.out, ← Hw1.out]
  refine HI.out.mono ?_
  rintro e w2 ⟨⟨fo, us, Fo, rfl, ho, hnd⟩, hb2⟩
  obtain ⟨x0, x1, x2, x3, x4, x5, rfl⟩ := six_of (ho.1.trans (row_length _))
  have hone := ho.one
  obtain ⟨w3, hw3⟩ : ∃ x, x = w2.alloc (.cells #[x0, x1, x2, x3, x4, x5] 35) := ⟨_, rfl⟩
  have hb3 : Below w2.heap.size w2 w3 := by subst hw3; exact (Below.refl _ _).alloc (Nat.le_refl _) _
  have h21 := heap_kept hb2 (heap_lt H11.out) H11.out
  have h22 := heap_kept hb2 (heap_lt H12.out) H12.out
  have H31 := Lib.hid (heap_kept hb3 (heap_lt h21) h21)
  have H32 := Lib.hid (heap_kept hb3 (heap_lt h22) h22)
  have hres : w3.heap[w2.heap.size]? = some (.cells #[x0, x1, x2, x3, x4, x5] 35 (0, 0)) := by subst hw3; exact heap_alloc_new w2 _
  have Hrow := Lib.hid (Row6.of hres)
  have Hb2 := Lib.hid (below_link Hb1.out hb2 Hb1.out.size)
  have Hb3 := Lib.hid (below_link Hb2.out hb3 Hb2.out.size)
  have hlt2 : w.heap.size + 2 < w2.heap.size := heap_lt h22
  have Hlt := Lib.hid hlt2
  have hge : w.heap.size + 2 < w1.heap.size := heap_lt H12.out
  -- what orUsual hands back: a row of one-cell values, owned in w3
  obtain ⟨S, hS⟩ : ∃ S, usF (#[x0, x1, x2, x3, x4, x5], o) #[.int .i64 6, .bool false, .int .i64 0, .string ⟨#[]⟩, .slice none 0 0, .slice none 0 0] = S := ⟨_, rfl⟩
  have hSt : ∃ (y0 y1 y2 y3 y4 y5 : Value) (fl : Nat) (G : List Nat), S.1 = #[y0, y1, y2, y3, y4, y5] ∧ (#[y0, y1, y2, y3, y4, y5] : Array Value).all (·.oneCell') = true ∧ OwnS w3 w.heap.size fl [y0, y1, y2, y3, y4, y5] (row (usF (rt, o) (.mk 6 false 0 ⟨#[]⟩ [] [])).1) G ∧ G.Nodup ∧ ∀ y ∈ G, w.heap.size + 2 < y := by
    unfold usF at hS ⊢
    by_cases e12 : (flt o).1 = 12
    · rw [if_pos e12] at hS
      subst hS
      refine ⟨_, _, _, _, _, _, 1, [], rfl, by simp [Value.oneCell'], ?_, List.nodup_nil, fun y hy => by cases hy⟩
      rw [if_pos e12]
      exact own_leaf 0 (wf_small (by decide) (by decide)) (wf_small (by decide) (by decide)) (by decide)
    · rw [if_neg e12] at hS
      subst hS
      refine ⟨x0, x1, x2, x3, x4, x5, fo, Fo, rfl, hone, ?_, hnd, fun y hy => by have := (ho.range y hy).1; omega⟩
      rw [if_neg e12]
      exact (ho.below hb3).lower Hb1.out.size
  have hS2 : S.2 = (usF (rt, o) (.mk 6 false 0 ⟨#[]⟩ [] [])).2 := by
    rw [← hS]
    unfold usF
    split <;> rfl
  have HO2 := Lib.hid (fun w' hb => HO.out [x0, x1, x2, x3, x4, x5] [.int .i64 6, .bool false, .int .i64 0, .string ⟨#[]⟩, .slice none 0 0, .slice none 0 0] rfl rfl (by simpa using hone) (by simp [Value.oneCell']) o w' hb)
  have hS' : usF (([x0, x1, x2, x3, x4, x5] : List Value).toArray, o) ([.int .i64 6, .bool false, .int .i64 0, .string ⟨#[]⟩, .slice none 0 0, .slice none 0 0] : List Value).toArray = S := hS
  rw [hS'] at HO2
  rw [hS2] at HO2
  obtain ⟨y0, y1, y2, y3, y4, y5, fl, G, hy, hone2, hown, hGn, hGr⟩ := hSt
  rw [hy] at HO2
  rw [HQ.out] at HO2 hown
  simp only [fv] at HO2
  generalize errV o = ev at HO2 ⊢
  have Hown := Lib.hid hown
  have HGr := Lib.hid hGr
  have Hw3 := Lib.hid hw3
  clear HI HO hb2 hb3 p0 p1 p2 p3 p4 p5 Hw1 ho h21 h22 H11 H12 hS hS' hS2 hy hown hw3 hres hlt2 hge hnd hGr
  go_wp2_with (first | (refine wpList_store_row rfl 35 _ _ rfl w2.heap.size #[x0, x1, x2, x3, x4, x5] rfl rfl 35 _ (heap_alloc_new w2 _) tree_size' rfl hone ?_; rw [World.setRow_alloc_new]) | fail)
  rw [← Hw3.out]
  obtain ⟨q0, q1, q2, q3, q4, q5⟩ := Hrow.out
  refine wp_region_held_drew (S := (fun w' => w'.cell? ⟨w2.heap.size, 0, none⟩ = some x0 ∧ w'.cell? ⟨w2.heap.size, 1, none⟩ = some x1 ∧ w'.cell? ⟨w2.heap.size, 2, none⟩ = some x2 ∧ w'.cell? ⟨w2.heap.size, 3, none⟩ = some x3 ∧ w'.cell? ⟨w2.heap.size, 4, none⟩ = some x4 ∧ w'.cell? ⟨w2.heap.size, 5, none⟩ = some x5)) (by kernel_rfl) ?_ (fun hHeld => ?_)
  · exact ⟨q0, q1, q2, q3, q4, q5⟩
  refine wpAnyH_take (i := 0) (v := ?_) rfl (by kernel_rfl) (by kernel_rfl) (by kernel_rfl) (fun _ _ _ h => h) (Or.inl ⟨by rfl, ?_⟩) (by assumption) ?_
  rotate_left
  · intro w' hSw
    try dsimp only at hSw
    go_simp
    try with_reducible rfl
  try simp only [Act.put, List.setIfInBounds_toArray, List.set_cons_zero, List.set_cons_succ, List.getElem_toArray, List.getElem_cons_zero, List.getElem_cons_succ]
  refine wpAnyH_take (i := 1) (v := ?_) rfl (by kernel_rfl) (by kernel_rfl) (by kernel_rfl) (fun _ _ _ h => h) (Or.inl ⟨by rfl, ?_⟩) (by assumption) ?_
  rotate_left
  · intro w' hSw
    try dsimp only at hSw
    go_simp
    try with_reducible rfl
  try simp only [Act.put, List.setIfInBounds_toArray, List.set_cons_zero, List.set_cons_succ, List.getElem_toArray, List.getElem_cons_zero, List.getElem_cons_succ]
  refine wpAnyH_take (i := 2) (v := ?_) rfl (by kernel_rfl) (by kernel_rfl) (by kernel_rfl) (fun _ _ _ h => h) (Or.inl ⟨by rfl, ?_⟩) (by assumption) ?_
  rotate_left
  · intro w' hSw
    try dsimp only at hSw
    go_simp
    try with_reducible rfl
  try simp only [Act.put, List.setIfInBounds_toArray, List.set_cons_zero, List.set_cons_succ, List.getElem_toArray, List.getElem_cons_zero, List.getElem_cons_succ]
  refine wpAnyH_ready (rs := [3]) (by kernel_rfl) (by simp) ?_
  refine AllReadyH.cons rfl (fun K hK => ?_) AllReadyH.nil
  go_simp
  go_at_call 60
  refine (HM.out _).mono ?_
  rintro e w5 ⟨rfl, hb5⟩
  have hb35 : Below w3.heap.size w3 w5 := (Below.refl _ _).drew.trans (hb5.mono (Nat.le_refl _))
  have Hb5 := Lib.hid (below_link Hb3.out hb35 Hb3.out.size)
  have Hrow5 := Lib.hid (Hrow.out.below hb35)
  have H51 := Lib.hid (heap_kept hb35 (heap_lt H31.out) H31.out)
  have H52 := Lib.hid (heap_kept hb35 (heap_lt H32.out) H32.out)
  have Hown5 := Lib.hid (Hown.out.below hb35)
  clear hb5 hb35 q0 q1 q2 q3 q4 q5 H31 H32 Hown
  refine hK.out _ _ ?_ (fun hHeld => ?_)
  · obtain ⟨q0, q1, q2, q3, q4, q5⟩ := Hrow5.out
    exact ⟨q0, q1, q2, q3, q4, q5⟩
  clear hK K
  try simp only [Act.put, List.setIfInBounds_toArray, List.set_cons_zero, List.set_cons_succ, List.getElem_toArray, List.getElem_cons_zero, List.getElem_cons_succ]
  refine wpAnyH_ready (rs := [4]) (by kernel_rfl) (by simp) ?_
  refine AllReadyH.cons rfl (fun K hK => ?_) AllReadyH.nil
  go_simp
  go_at_call 59
  refine (HO2.out w5 Hb5.out).mono ?_
  rintro e w6 ⟨rfl, hb6⟩
  have Hb6 := Lib.hid (below_link Hb5.out hb6 Hb5.out.size)
  have Hrow6 := Lib.hid (Hrow5.out.below hb6)
  have h61 := heap_kept hb6 (heap_lt H51.out) H51.out
  have h62 := heap_kept hb6 (heap_lt H52.out) H52.out
  have H61 := Lib.hid h61
  have H62 := Lib.hid h62
  have Hown6 := Lib.hid (Hown5.out.below hb6)
  have Hlt6 := Lib.hid (heap_lt h62)
  clear hb6 Hrow5 H51 H52 Hown5 h61 h62
  refine hK.out _ _ ?_ (fun hHeld => ?_)
  · obtain ⟨q0, q1, q2, q3, q4, q5⟩ := Hrow6.out
    exact ⟨q0, q1, q2, q3, q4, q5⟩
  clear hK K
  try simp only [Act.put, List.setIfInBounds_toArray, List.set_cons_zero, List.set_cons_succ, List.getElem_toArray, List.getElem_cons_zero, List.getElem_cons_succ]
  refine wpAnyH_take (i := 5) (v := ?_) rfl (by kernel_rfl) (by kernel_rfl) (by kernel_rfl) (fun _ _ _ h => h) (Or.inl ⟨by rfl, ?_⟩) (by assumption) ?_
  rotate_left
  · intro w' hSw
    try dsimp only at hSw
    go_simp
    try with_reducible rfl
  try simp only [Act.put, List.setIfInBounds_toArray, List.set_cons_zero, List.set_cons_succ, List.getElem_toArray, List.getElem_cons_zero, List.getElem_cons_succ]
  refine wpAnyH_take (i := 6) (v := ?_) rfl (by kernel_rfl) (by kernel_rfl) (by kernel_rfl) (fun _ _ _ h => h) (Or.inl ⟨by rfl, ?_⟩) (by assumption) ?_
  rotate_left
  · intro w' hSw
    try dsimp only at hSw
    go_simp
    try with_reducible rfl
  try simp only [Act.put, List.setIfInBounds_toArray, List.set_cons_zero, List.set_cons_succ, List.getElem_toArray, List.getElem_cons_zero, List.getElem_cons_succ]
  refine wpAnyH_ready (rs := [7]) (by kernel_rfl) (by simp) ?_
  refine AllReadyH.cons rfl (fun K hK => ?_) AllReadyH.nil
  refine step_store_rowA rfl 35 _ _ rfl (w.heap.size + 1) #[y0, y1, y2, y3, y4, y5] rfl rfl 35 _ H61.out tree_size' rfl hone2 ?_
  refine hK.out _ _ ?_ (fun hHeld => ?_)
  · obtain ⟨q0, q1, q2, q3, q4, q5⟩ := row6_other (c := #[y0, y1, y2, y3, y4, y5]) (x := w.heap.size + 1) Hrow6.out (by have := Hlt.out; omega)
    exact ⟨q0, q1, q2, q3, q4, q5⟩
  clear hK K
  try simp only [Act.put, List.setIfInBounds_toArray, List.set_cons_zero, List.set_cons_succ, List.getElem_toArray, List.getElem_cons_zero, List.getElem_cons_succ]
  refine wpAnyH_ready (rs := [8]) (by kernel_rfl) (by simp) ?_
  refine AllReadyH.cons rfl (fun K hK => ?_) AllReadyH.nil
  refine step_store_rowA rfl 31 _ _ rfl (w.heap.size + 2) #[.int .i64 gc, .int .i64 0, .string gq] rfl rfl 31 _ ((setRow_other _ _ _ _ (by omega)).trans H62.out) sizeFault rfl (by simp [Value.oneCell']) ?_
  refine hK.out _ _ ?_ (fun hHeld => ?_)
  · obtain ⟨q0, q1, q2, q3, q4, q5⟩ := row6_other (c := #[.int .i64 gc, .int .i64 0, .string gq]) (x := w.heap.size + 2) (row6_other (c := #[y0, y1, y2, y3, y4, y5]) (x := w.heap.size + 1) Hrow6.out (by have := Hlt.out; omega)) (by have := Hlt.out; omega)
    exact ⟨q0, q1, q2, q3, q4, q5⟩
  clear hK K
  try simp only [Act.put, List.setIfInBounds_toArray, List.set_cons_zero, List.set_cons_succ, List.getElem_toArray, List.getElem_cons_zero, List.getElem_cons_succ]
  refine wpAnyH_done (by kernel_rfl) ?_ _
  go_wp2_with fail
  refine bodyPost_ret (v := .tuple #[.agg #[y0, y1, y2, y3, y4, y5], fv (gc, gq)]) ?_ rfl ⟨⟨_, _, G, rfl, OwnS.kept (fun y hy => (setRow_other _ _ _ _ (by have := HGr.out y hy; omega)).trans (setRow_other _ _ _ _ (by have := HGr.out y hy; omega))) Hown6.out, hGn⟩, setRow_below (setRow_below Hb6.out (by omega) _) (by omega) _⟩
  exact ret_cf rfl rfl ((setRow_other _ _ _ _ (by omega)).trans (setRow_at H61.out)) rfl rfl (setRow_at ((setRow_other _ _ _ _ (by omega)).trans H62.out))
end Go.Proofs.YtangdmjdjiddcaaDoor.field
