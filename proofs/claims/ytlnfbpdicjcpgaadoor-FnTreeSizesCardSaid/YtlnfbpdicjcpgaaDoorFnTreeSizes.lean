/- FnTreeSizes: for every byte slice the law returns true. Printed by gen/gen_treesizes.py. -/
import Derived.Test.YtlnfbpdicjcpgaaDoorDrawTreeD
import Derived.Test.YtlnfbpdicjcpgaaDoorGMs
import Derived.Test.YtlnfbpdicjcpgaaDoorGSz
import Derived.Test.YtlnfbpdicjcpgaaDoorGMk
import Derived.Test.YtlnfbpdicjcpgaaDoorTrSameI
import Derived.Test.YtlnfbpdicjcpgaaDoorTrOkI
import Derived.Deep.RegionHeld3
namespace Go.Proofs.YtlnfbpdicjcpgaaDoor.fnTreeSizes
open Go.ChangeShapes Go.WideShapes Go.ChangeAt Go.RowKit
open tree
open rune (Tabs)
set_option linter.unusedVariables false

theorem liesS_append {w : World} {f : Nat} : ∀ {vs : List Value} {ds : List C} {us : List Value} {es : List C}, LiesS w f vs ds → LiesS w f us es → LiesS w f (vs ++ us) (ds ++ es)
  | [], ds, us, es, h, k => by
    have : ds = [] := List.eq_nil_of_length_eq_zero h.1.symm
    subst this
    exact k
  | v :: vs, [], us, es, h, k => by have := h.1; simp at this
  | v :: vs, d :: ds, us, es, h, k => by
    obtain ⟨v', vs', e, h1, h2⟩ := h.uncons
    injection e with e1 e2
    subst e1; subst e2
    exact LiesS.cons h1 (liesS_append h2 k)
/-- Trees written one behind the other into a new block. -/
theorem lies_lit {w : World} {f : Nat} {vs : List Value} {kids : List T} (e : TypeId) (h : LiesS w f vs (rows kids)) (hn : kids.length ≤ maxLen) :
    Lies (w.alloc (.cells vs.toArray e)) (f + 1) (.slice (some ⟨w.heap.size, 0, none⟩) kids.length kids.length) (.sl 6 kids.length (rows kids)) := by
  refine ⟨_, _, rfl, Nat.le_refl _, hn, rows_length kids, fun _ => ⟨w.heap.size, 0, rfl, by simp, fun m d hd => ?_⟩⟩
  have hm : m < vs.length := by rw [h.1]; exact (List.getElem?_eq_some_iff.1 hd).1
  refine ⟨vs[m], ?_, (h.2 m _ d (List.getElem?_eq_getElem hm) hd).below ((Below.refl _ _).alloc (Nat.le_refl _) _)⟩
  rw [cell_of_row _ _ (0 + m) _ _ _ (heap_alloc_new w _), Nat.zero_add]
  simp [hm]

set_option maxRecDepth 1000000 in
set_option maxHeartbeats 16000000 in
theorem walk (A : Option Addr) (len cap : Nat) (zs : List Int) (W : World) (hr : IsRow .u8 W A len cap zs) (hT : Tabs W) :
    Calls Tryd.prog 5 #[.slice A len cap] W fun e w' => e = .returned (.bool true) ∧ Below W.heap.size W w' := by
  have hm := hr.le
  have hB := Lib.hid (lawBig.any A len cap W hm)
  unfold maxLen at hm
  by_cases h1 : 1048576 < len
  · clear hr
    go_enter Tryd.func5, Tryd.ntmps5
    go_wp2_with fail
    refine hB.out.mono ?_
    rintro e w1 ⟨rfl, rfl⟩
    go_wp2_with fail
    go_ret
    exact ⟨rfl, Below.refl _ _⟩
  have HD := Lib.hid (drawTree_any A len cap zs W hr (by omega))
  have HT0 := Lib.hid hT
  clear hr hT
  go_enter Tryd.func5, Tryd.ntmps5
  go_wp2_with fail
  refine hB.out.mono ?_
  rintro e w1 ⟨rfl, rfl⟩
  clear hB
  go_wp2_with fail
  refine HD.out.mono ?_
  clear HD
  rintro e w1 ⟨t, us, f, F, good, rfl, ho, hn, hb1⟩
  obtain ⟨x0, x1, x2, x3, x4, x5, rfl⟩ := six_of (ho.1.trans (row_length _))
  have hok := good.ok (Nat.le_refl _)
  have hn1 : size t ≤ 300 := hok.2.1
  have hd1 : depth t ≤ 8 := hok.1
  have hl1 : leaves t ≤ 300 := Nat.le_trans (leaves_le_size t) hn1
  have hwt := good.light (Nat.le_refl _)
  have hone := ho.one
  obtain ⟨w2, hw2⟩ : ∃ w2, w2 = w1.alloc (.cells #[x0, x1, x2, x3, x4, x5] 29) := ⟨_, rfl⟩
  have hs2 : w2.heap.size = w1.heap.size + 1 := by rw [hw2]; simp
  have hb2 : Below w1.heap.size w1 w2 := by rw [hw2]; exact (Below.refl _ _).alloc (Nat.le_refl _) _
  obtain ⟨p0, p1, p2, p3, p4, p5⟩ : Row6 w2 w1.heap.size x0 x1 x2 x3 x4 x5 := by rw [hw2]; exact Row6.of (heap_alloc_new w1 _)
  have hx2 : LiesS w2 f [x0, x1, x2, x3, x4, x5] (row t) := ho.lies.below hb2
  have hx22 : LiesS w2 f ([x0, x1, x2, x3, x4, x5] ++ [x0, x1, x2, x3, x4, x5]) (rows [t, t]) := by
    have h := liesS_append hx2 hx2
    simpa [rows] using h
  obtain ⟨w3, hw3⟩ : ∃ w3, w3 = w2.alloc (.cells #[x0, x1, x2, x3, x4, x5, x0, x1, x2, x3, x4, x5] 29) := ⟨_, rfl⟩
  have hb3 : Below w2.heap.size w2 w3 := by rw [hw3]; exact (Below.refl _ _).alloc (Nat.le_refl _) _
  have HL := Lib.hid (show Calls Tryd.prog 21 #[.slice (some ⟨w1.heap.size + 1, 0, none⟩) 2 2] w3 fun e w' => TreeOut' w3.heap.size (f + 3) (listT [t, t]) e w' ∧ Below w3.heap.size w3 w' from by
    have h := lies_lit 29 hx22 (by simp [maxLen])
    rw [hs2] at h
    rw [hw3]
    exact impl_list [t, t] _ 2 _ h (by simp [weights]; omega))
  have Hx3 := Lib.hid (hx2.below hb3)
  have Hrow3 := Lib.hid (show w3.heap[w1.heap.size]? = some (.cells #[x0, x1, x2, x3, x4, x5] 29 (0, 0)) by
    refine (hb3.block _ (by omega)).trans ?_
    rw [hw2]
    exact heap_alloc_new w1 _)
  have HT3 := Lib.hid ((HT0.out.below (hb1)).below hb2 |>.below hb3)
  have Hb3 := Lib.hid (below_link (below_link hb1 hb2 hb1.size) hb3 (Nat.le_trans hb1.size hb2.size))
  have Hw2 := Lib.hid hw2
  have Hw3 := Lib.hid hw3
  have Hok := Lib.hid hok
  have Hs2 := Lib.hid hs2
  rw [hw2] at p0 p1 p2 p3 p4 p5
  clear ho hb1 hb2 hb3 hw3 hw2 hx2 hx22 good HT0 hok hs2
  go_wp2_with (first | (refine wpList_store_row rfl 29 _ _ rfl w1.heap.size #[x0, x1, x2, x3, x4, x5] rfl rfl 29 _ (heap_alloc_new w1 _) tree_size' rfl hone ?_; rw [World.setRow_alloc_new]) | fail)
  rw [← Hw2.out, ← Hw3.out]
  refine HL.out.mono ?_
  rintro e w4 ⟨⟨us4, F4, rfl, ho4, hn4⟩, hb4⟩
  obtain ⟨y0, y1, y2, y3, y4, y5, rfl⟩ := six_of (ho4.1.trans (row_length _))
  have hone4 := ho4.one
  obtain ⟨w5, hw5⟩ : ∃ w5, w5 = w4.alloc (.cells #[y0, y1, y2, y3, y4, y5] 29) := ⟨_, rfl⟩
  have hb5 : Below w4.heap.size w4 w5 := by rw [hw5]; exact (Below.refl _ _).alloc (Nat.le_refl _) _
  have hrow4 := heap_kept hb4 (heap_lt Hrow3.out) Hrow3.out
  have HX := Lib.hid (Row6.of (heap_kept hb5 (heap_lt hrow4) hrow4))
  have HY := Lib.hid (show Row6 w5 w4.heap.size y0 y1 y2 y3 y4 y5 by rw [hw5]; exact Row6.of (heap_alloc_new w4 _))
  have Hlx := Lib.hid ((Hx3.out.below hb4).below hb5)
  have Hly := Lib.hid (ho4.lies.below hb5)
  have HT5 := Lib.hid ((HT3.out.below hb4).below hb5)
  have Hb5 := Lib.hid (below_link (below_link Hb3.out hb4 Hb3.out.size) hb5 (Nat.le_trans Hb3.out.size hb4.size))
  have Hw5 := Lib.hid hw5
  clear hw5 hb4 hb5 hrow4 ho4 Hx3 HT3 Hb3 Hrow3 HL Hw2 Hw3 p0 p1 p2 p3 p4 p5
  have CSl := Lib.hid (show ∀ w', Below w5.heap.size w5 w' → Calls Tryd.prog 22 #[.agg #[y0, y1, y2, y3, y4, y5]] w' fun e w'' => e = .returned (.int .i64 (1 + 2 * (size t : Nat))) ∧ Below w'.heap.size w' w'' from fun w' hb => by
    have h := impl_size _ (listT [t, t]) _ w' (Hly.out.below hb) (by simp [listT, size, sizes]; omega)
    have e : ((size (listT [t, t]) : Nat) : Int) = 1 + 2 * (size t : Nat) := by simp [listT, size, sizes]; omega
    rw [e] at h
    exact h)
  have CSt := Lib.hid (fun w' (hb : Below w5.heap.size w5 w') => spec_size _ t _ w' (Hlx.out.below hb) (by omega))
  have CDl := Lib.hid (show ∀ w', Below w5.heap.size w5 w' → Calls Tryd.prog 24 #[.agg #[y0, y1, y2, y3, y4, y5]] w' fun e w'' => e = .returned (.int .i64 (1 + (depth t : Nat))) ∧ Below w'.heap.size w' w'' from fun w' hb => by
    have h := impl_depth _ (listT [t, t]) _ w' (Hly.out.below hb) (by simp [listT, size, sizes]; omega)
    have e : ((depth (listT [t, t]) : Nat) : Int) = 1 + (depth t : Nat) := by simp [listT, depth, depths]; omega
    rw [e] at h
    exact h)
  have CDt := Lib.hid (fun w' (hb : Below w5.heap.size w5 w') => spec_depth _ t _ w' (Hlx.out.below hb) (by omega))
  have CLl := Lib.hid (show ∀ w', Below w5.heap.size w5 w' → Calls Tryd.prog 26 #[.agg #[y0, y1, y2, y3, y4, y5]] w' fun e w'' => e = .returned (.int .i64 (2 * (leaves t : Nat))) ∧ Below w'.heap.size w' w'' from fun w' hb => by
    have h := impl_leaves _ (listT [t, t]) _ w' (Hly.out.below hb) (by simp [listT, size, sizes]; omega)
    have e : ((leaves (listT [t, t]) : Nat) : Int) = 2 * (leaves t : Nat) := by simp [listT, leaves, leavess]; omega
    rw [e] at h
    exact h)
  have CLt := Lib.hid (fun w' (hb : Below w5.heap.size w5 w') => spec_leaves _ t _ w' (Hlx.out.below hb) (by omega))
  have CM1 := Lib.hid (show ∀ w', Below w5.heap.size w5 w' → Calls Tryd.prog 28 #[.agg #[x0, x1, x2, x3, x4, x5], .agg #[x0, x1, x2, x3, x4, x5]] w' fun e w'' => e = .returned (.bool true) ∧ Below w'.heap.size w' w'' from fun w' hb => by
    have h := impl_same _ _ t t _ _ w' (Hlx.out.below hb) (Hlx.out.below hb) (by omega)
    rw [same_refl] at h
    exact h)
  have CM2 := Lib.hid (show ∀ w', Below w5.heap.size w5 w' → Calls Tryd.prog 28 #[.agg #[x0, x1, x2, x3, x4, x5], .agg #[y0, y1, y2, y3, y4, y5]] w' fun e w'' => e = .returned (.bool false) ∧ Below w'.heap.size w' w'' from fun w' hb => by
    have h := impl_same _ _ t (listT [t, t]) _ _ w' (Hlx.out.below hb) (Hly.out.below hb) (by omega)
    rw [same_ne (fun e => by have h2 := congrArg size e; simp [listT, size, sizes] at h2; omega)] at h
    exact h)
  have COk := Lib.hid (show ∀ w', Below w5.heap.size w5 w' → Calls Tryd.prog 19 #[.agg #[x0, x1, x2, x3, x4, x5]] w' fun e w'' => e = .returned (.bool true) ∧ Below w'.heap.size w' w'' from fun w' hb => by
    have h := impl_okay _ t _ w' (Hlx.out.below hb) (by omega) (HT5.out.below hb)
    rw [show dec (Ok t) = true from dec_eq ⟨fun _ => rfl, fun _ => Hok.out⟩] at h
    exact h)
  have CTx := Lib.hid (fun w' => impl_text ⟨#[97]⟩ w' (by decide))
  have CIn := Lib.hid (fun w' => impl_int 5 w' (wf_small (by decide) (by decide)))
  have hF : ∀ (a1 a2 : Option Addr) (b1 b2 : Nat) (w : World), (Instr.field 29 (.agg #[.int .i64 3, .bool false, .int .i64 5, .string ⟨#[]⟩, .slice a1 0 b1, .slice a2 0 b2]) 2).run Tryd.prog w = .ok (.int .i64 5) w := fun _ _ _ _ _ => by kernel_rfl
  clear Hlx Hly HT5 Hok
  generalize size t = n at CSl CSt hn1
  generalize depth t = d at CDl CDt hd1
  generalize leaves t = l at CLl CLt hl1
  go_wp2_with (first | (refine wpList_store_row rfl 29 _ _ rfl w4.heap.size #[y0, y1, y2, y3, y4, y5] rfl rfl 29 _ (heap_alloc_new w4 _) tree_size' rfl hone4 ?_; rw [World.setRow_alloc_new]) | fail)
  rw [← Hw5.out]
  have KS := Lib.hid (show ∀ w', Below w5.heap.size w5 w' → Below w5.heap.size w5 w' ∧ w'.cell? ⟨w1.heap.size, 0, none⟩ = some x0 ∧ w'.cell? ⟨w1.heap.size, 1, none⟩ = some x1 ∧ w'.cell? ⟨w1.heap.size, 2, none⟩ = some x2 ∧ w'.cell? ⟨w1.heap.size, 3, none⟩ = some x3 ∧ w'.cell? ⟨w1.heap.size, 4, none⟩ = some x4 ∧ w'.cell? ⟨w1.heap.size, 5, none⟩ = some x5 ∧ w'.cell? ⟨w4.heap.size, 0, none⟩ = some y0 ∧ w'.cell? ⟨w4.heap.size, 1, none⟩ = some y1 ∧ w'.cell? ⟨w4.heap.size, 2, none⟩ = some y2 ∧ w'.cell? ⟨w4.heap.size, 3, none⟩ = some y3 ∧ w'.cell? ⟨w4.heap.size, 4, none⟩ = some y4 ∧ w'.cell? ⟨w4.heap.size, 5, none⟩ = some y5 from fun w' hb => by
    obtain ⟨p0, p1, p2, p3, p4, p5⟩ := HX.out.below hb
    obtain ⟨q0, q1, q2, q3, q4, q5⟩ := HY.out.below hb
    exact ⟨hb, p0, p1, p2, p3, p4, p5, q0, q1, q2, q3, q4, q5⟩)
  have B0 := Lib.hid (show Below w5.heap.size w5 w5.drew from (Below.refl _ _).drew)
  clear HX HY
  refine wp_region_held_drew (S := (fun w' => Below w5.heap.size w5 w' ∧ w'.cell? ⟨w1.heap.size, 0, none⟩ = some x0 ∧ w'.cell? ⟨w1.heap.size, 1, none⟩ = some x1 ∧ w'.cell? ⟨w1.heap.size, 2, none⟩ = some x2 ∧ w'.cell? ⟨w1.heap.size, 3, none⟩ = some x3 ∧ w'.cell? ⟨w1.heap.size, 4, none⟩ = some x4 ∧ w'.cell? ⟨w1.heap.size, 5, none⟩ = some x5 ∧ w'.cell? ⟨w4.heap.size, 0, none⟩ = some y0 ∧ w'.cell? ⟨w4.heap.size, 1, none⟩ = some y1 ∧ w'.cell? ⟨w4.heap.size, 2, none⟩ = some y2 ∧ w'.cell? ⟨w4.heap.size, 3, none⟩ = some y3 ∧ w'.cell? ⟨w4.heap.size, 4, none⟩ = some y4 ∧ w'.cell? ⟨w4.heap.size, 5, none⟩ = some y5)) (by kernel_rfl) ?_ (fun hHeld => ?_)
  · first | exact KS.out _ hx12 | exact KS.out _ hx11 | exact KS.out _ hx10 | exact KS.out _ hx9 | exact KS.out _ hx8 | exact KS.out _ hx7 | exact KS.out _ hx6 | exact KS.out _ hx5 | exact KS.out _ hx4 | exact KS.out _ hx3 | exact KS.out _ hx2 | exact KS.out _ hx1 | exact KS.out _ B0.out
  refine wpAnyH_take (i := 0) (v := ?_) rfl (by kernel_rfl) (by kernel_rfl) (by kernel_rfl) (fun _ _ _ h => h) (Or.inl ⟨by rfl, ?_⟩) (by assumption) ?_
  rotate_left
  · intro w' hSw
    try dsimp only at hSw
    go_simp
    try with_reducible rfl
  try simp only [Act.put, List.setIfInBounds_toArray, List.set_cons_zero, List.set_cons_succ, List.getElem_toArray, List.getElem_cons_zero, List.getElem_cons_succ]
  refine wpAnyH_take (i := 2) (v := ?_) rfl (by kernel_rfl) (by kernel_rfl) (by kernel_rfl) (fun _ _ _ h => h) (Or.inl ⟨by rfl, ?_⟩) (by assumption) ?_
  rotate_left
  · intro w' hSw
    try dsimp only at hSw
    go_simp
    try with_reducible rfl
  try simp only [Act.put, List.setIfInBounds_toArray, List.set_cons_zero, List.set_cons_succ, List.getElem_toArray, List.getElem_cons_zero, List.getElem_cons_succ]
  refine wpAnyH_ready (rs := [1]) (by kernel_rfl) (by simp) ?_
  refine AllReadyH.cons rfl (fun K hK => ?_) ?_
  · go_simp
    go_at_call 22
    refine (CSl.out _ hHeld.1).mono ?_
    rintro e v1 ⟨rfl, hb1⟩
    have hx1 := below_link hHeld.1 hb1 hHeld.1.size
    refine hK.out _ _ ?_ (fun hHeld => ?_)
    · first | exact KS.out _ hx12 | exact KS.out _ hx11 | exact KS.out _ hx10 | exact KS.out _ hx9 | exact KS.out _ hx8 | exact KS.out _ hx7 | exact KS.out _ hx6 | exact KS.out _ hx5 | exact KS.out _ hx4 | exact KS.out _ hx3 | exact KS.out _ hx2 | exact KS.out _ hx1 | exact KS.out _ B0.out
    clear hK K
    try simp only [Act.put, List.setIfInBounds_toArray, List.set_cons_zero, List.set_cons_succ, List.getElem_toArray, List.getElem_cons_zero, List.getElem_cons_succ]
    refine wpAnyH_ready (rs := [3]) (by kernel_rfl) (by simp) ?_
    refine AllReadyH.cons rfl (fun K hK => ?_) ?_
    · go_simp
      go_at_call 23
      refine (CSt.out _ hHeld.1).mono ?_
      rintro e v2 ⟨rfl, hb2⟩
      have hx2 := below_link hHeld.1 hb2 hHeld.1.size
      refine hK.out _ _ ?_ (fun hHeld => ?_)
      · first | exact KS.out _ hx12 | exact KS.out _ hx11 | exact KS.out _ hx10 | exact KS.out _ hx9 | exact KS.out _ hx8 | exact KS.out _ hx7 | exact KS.out _ hx6 | exact KS.out _ hx5 | exact KS.out _ hx4 | exact KS.out _ hx3 | exact KS.out _ hx2 | exact KS.out _ hx1 | exact KS.out _ B0.out
      clear hK K
      try simp only [Act.put, List.setIfInBounds_toArray, List.set_cons_zero, List.set_cons_succ, List.getElem_toArray, List.getElem_cons_zero, List.getElem_cons_succ]
      refine wpAnyH_take (i := 4) (v := ?_) rfl (by kernel_rfl) (by kernel_rfl) (by kernel_rfl) (fun _ _ _ h => h) (Or.inl ⟨by rfl, ?_⟩) (by assumption) ?_
      rotate_left
      · intro w' hSw
        try dsimp only at hSw
        go_simp
        try with_reducible rfl
      try simp only [Act.put, List.setIfInBounds_toArray, List.set_cons_zero, List.set_cons_succ, List.getElem_toArray, List.getElem_cons_zero, List.getElem_cons_succ]
      refine wpAnyH_take (i := 5) (v := ?_) rfl (by kernel_rfl) (by kernel_rfl) (by kernel_rfl) (fun _ _ _ h => h) (Or.inl ⟨by rfl, ?_⟩) (by assumption) ?_
      rotate_left
      · intro w' hSw
        try dsimp only at hSw
        go_simp
        try with_reducible rfl
      try simp only [Act.put, List.setIfInBounds_toArray, List.set_cons_zero, List.set_cons_succ, List.getElem_toArray, List.getElem_cons_zero, List.getElem_cons_succ]
      refine wpAnyH_take (i := 6) (v := (.bool true)) rfl (by kernel_rfl) (by kernel_rfl) (by kernel_rfl) (fun _ _ _ h => h) (Or.inl ⟨by rfl, ?_⟩) (by assumption) ?_
      · intro w' hSw
        try dsimp only at hSw
        go_simp
        try (first | rfl | (simp only [IntKind.wrap_i64]; omega))
      try simp only [Act.put, List.setIfInBounds_toArray, List.set_cons_zero, List.set_cons_succ, List.getElem_toArray, List.getElem_cons_zero, List.getElem_cons_succ]
      refine wpAnyH_take (i := 7) (v := ?_) rfl (by kernel_rfl) (by kernel_rfl) (by kernel_rfl) (fun _ _ _ h => h) (Or.inl ⟨by rfl, ?_⟩) (by assumption) ?_
      rotate_left
      · intro w' hSw
        try dsimp only at hSw
        go_simp
        try with_reducible rfl
      try simp only [Act.put, List.setIfInBounds_toArray, List.set_cons_zero, List.set_cons_succ, List.getElem_toArray, List.getElem_cons_zero, List.getElem_cons_succ]
      refine wpAnyH_take (i := 8) (v := ?_) rfl (by kernel_rfl) (by kernel_rfl) (by kernel_rfl) (fun _ _ _ h => h) (Or.inl ⟨by rfl, ?_⟩) (by assumption) ?_
      rotate_left
      · intro w' hSw
        try dsimp only at hSw
        go_simp
        try with_reducible rfl
      try simp only [Act.put, List.setIfInBounds_toArray, List.set_cons_zero, List.set_cons_succ, List.getElem_toArray, List.getElem_cons_zero, List.getElem_cons_succ]
      refine wpAnyH_take (i := 10) (v := ?_) rfl (by kernel_rfl) (by kernel_rfl) (by kernel_rfl) (fun _ _ _ h => h) (Or.inl ⟨by rfl, ?_⟩) (by assumption) ?_
      rotate_left
      · intro w' hSw
        try dsimp only at hSw
        go_simp
        try with_reducible rfl
      try simp only [Act.put, List.setIfInBounds_toArray, List.set_cons_zero, List.set_cons_succ, List.getElem_toArray, List.getElem_cons_zero, List.getElem_cons_succ]
      refine wpAnyH_ready (rs := [9]) (by kernel_rfl) (by simp) ?_
      refine AllReadyH.cons rfl (fun K hK => ?_) ?_
      · go_simp
        go_at_call 24
        refine (CDl.out _ hHeld.1).mono ?_
        rintro e v3 ⟨rfl, hb3⟩
        have hx3 := below_link hHeld.1 hb3 hHeld.1.size
        refine hK.out _ _ ?_ (fun hHeld => ?_)
        · first | exact KS.out _ hx12 | exact KS.out _ hx11 | exact KS.out _ hx10 | exact KS.out _ hx9 | exact KS.out _ hx8 | exact KS.out _ hx7 | exact KS.out _ hx6 | exact KS.out _ hx5 | exact KS.out _ hx4 | exact KS.out _ hx3 | exact KS.out _ hx2 | exact KS.out _ hx1 | exact KS.out _ B0.out
        clear hK K
        try simp only [Act.put, List.setIfInBounds_toArray, List.set_cons_zero, List.set_cons_succ, List.getElem_toArray, List.getElem_cons_zero, List.getElem_cons_succ]
        refine wpAnyH_ready (rs := [11]) (by kernel_rfl) (by simp) ?_
        refine AllReadyH.cons rfl (fun K hK => ?_) ?_
        · go_simp
          go_at_call 25
          refine (CDt.out _ hHeld.1).mono ?_
          rintro e v4 ⟨rfl, hb4⟩
          have hx4 := below_link hHeld.1 hb4 hHeld.1.size
          refine hK.out _ _ ?_ (fun hHeld => ?_)
          · first | exact KS.out _ hx12 | exact KS.out _ hx11 | exact KS.out _ hx10 | exact KS.out _ hx9 | exact KS.out _ hx8 | exact KS.out _ hx7 | exact KS.out _ hx6 | exact KS.out _ hx5 | exact KS.out _ hx4 | exact KS.out _ hx3 | exact KS.out _ hx2 | exact KS.out _ hx1 | exact KS.out _ B0.out
          clear hK K
          try simp only [Act.put, List.setIfInBounds_toArray, List.set_cons_zero, List.set_cons_succ, List.getElem_toArray, List.getElem_cons_zero, List.getElem_cons_succ]
          refine wpAnyH_take (i := 12) (v := ?_) rfl (by kernel_rfl) (by kernel_rfl) (by kernel_rfl) (fun _ _ _ h => h) (Or.inl ⟨by rfl, ?_⟩) (by assumption) ?_
          rotate_left
          · intro w' hSw
            try dsimp only at hSw
            go_simp
            try with_reducible rfl
          try simp only [Act.put, List.setIfInBounds_toArray, List.set_cons_zero, List.set_cons_succ, List.getElem_toArray, List.getElem_cons_zero, List.getElem_cons_succ]
          refine wpAnyH_take (i := 13) (v := (.bool true)) rfl (by kernel_rfl) (by kernel_rfl) (by kernel_rfl) (fun _ _ _ h => h) (Or.inl ⟨by rfl, ?_⟩) (by assumption) ?_
          · intro w' hSw
            try dsimp only at hSw
            go_simp
            try (first | rfl | (simp only [IntKind.wrap_i64]; omega))
          try simp only [Act.put, List.setIfInBounds_toArray, List.set_cons_zero, List.set_cons_succ, List.getElem_toArray, List.getElem_cons_zero, List.getElem_cons_succ]
          refine wpAnyH_take (i := 14) (v := ?_) rfl (by kernel_rfl) (by kernel_rfl) (by kernel_rfl) (fun _ _ _ h => h) (Or.inl ⟨by rfl, ?_⟩) (by assumption) ?_
          rotate_left
          · intro w' hSw
            try dsimp only at hSw
            go_simp
            try with_reducible rfl
          try simp only [Act.put, List.setIfInBounds_toArray, List.set_cons_zero, List.set_cons_succ, List.getElem_toArray, List.getElem_cons_zero, List.getElem_cons_succ]
          refine wpAnyH_take (i := 15) (v := ?_) rfl (by kernel_rfl) (by kernel_rfl) (by kernel_rfl) (fun _ _ _ h => h) (Or.inl ⟨by rfl, ?_⟩) (by assumption) ?_
          rotate_left
          · intro w' hSw
            try dsimp only at hSw
            go_simp
            try with_reducible rfl
          try simp only [Act.put, List.setIfInBounds_toArray, List.set_cons_zero, List.set_cons_succ, List.getElem_toArray, List.getElem_cons_zero, List.getElem_cons_succ]
          refine wpAnyH_take (i := 16) (v := ?_) rfl (by kernel_rfl) (by kernel_rfl) (by kernel_rfl) (fun _ _ _ h => h) (Or.inl ⟨by rfl, ?_⟩) (by assumption) ?_
          rotate_left
          · intro w' hSw
            try dsimp only at hSw
            go_simp
            try with_reducible rfl
          try simp only [Act.put, List.setIfInBounds_toArray, List.set_cons_zero, List.set_cons_succ, List.getElem_toArray, List.getElem_cons_zero, List.getElem_cons_succ]
          refine wpAnyH_take (i := 18) (v := ?_) rfl (by kernel_rfl) (by kernel_rfl) (by kernel_rfl) (fun _ _ _ h => h) (Or.inl ⟨by rfl, ?_⟩) (by assumption) ?_
          rotate_left
          · intro w' hSw
            try dsimp only at hSw
            go_simp
            try with_reducible rfl
          try simp only [Act.put, List.setIfInBounds_toArray, List.set_cons_zero, List.set_cons_succ, List.getElem_toArray, List.getElem_cons_zero, List.getElem_cons_succ]
          refine wpAnyH_ready (rs := [17]) (by kernel_rfl) (by simp) ?_
          refine AllReadyH.cons rfl (fun K hK => ?_) ?_
          · go_simp
            go_at_call 26
            refine (CLl.out _ hHeld.1).mono ?_
            rintro e v5 ⟨rfl, hb5⟩
            have hx5 := below_link hHeld.1 hb5 hHeld.1.size
            refine hK.out _ _ ?_ (fun hHeld => ?_)
            · first | exact KS.out _ hx12 | exact KS.out _ hx11 | exact KS.out _ hx10 | exact KS.out _ hx9 | exact KS.out _ hx8 | exact KS.out _ hx7 | exact KS.out _ hx6 | exact KS.out _ hx5 | exact KS.out _ hx4 | exact KS.out _ hx3 | exact KS.out _ hx2 | exact KS.out _ hx1 | exact KS.out _ B0.out
            clear hK K
            try simp only [Act.put, List.setIfInBounds_toArray, List.set_cons_zero, List.set_cons_succ, List.getElem_toArray, List.getElem_cons_zero, List.getElem_cons_succ]
            refine wpAnyH_ready (rs := [19]) (by kernel_rfl) (by simp) ?_
            refine AllReadyH.cons rfl (fun K hK => ?_) ?_
            · go_simp
              go_at_call 27
              refine (CLt.out _ hHeld.1).mono ?_
              rintro e v6 ⟨rfl, hb6⟩
              have hx6 := below_link hHeld.1 hb6 hHeld.1.size
              refine hK.out _ _ ?_ (fun hHeld => ?_)
              · first | exact KS.out _ hx12 | exact KS.out _ hx11 | exact KS.out _ hx10 | exact KS.out _ hx9 | exact KS.out _ hx8 | exact KS.out _ hx7 | exact KS.out _ hx6 | exact KS.out _ hx5 | exact KS.out _ hx4 | exact KS.out _ hx3 | exact KS.out _ hx2 | exact KS.out _ hx1 | exact KS.out _ B0.out
              clear hK K
              try simp only [Act.put, List.setIfInBounds_toArray, List.set_cons_zero, List.set_cons_succ, List.getElem_toArray, List.getElem_cons_zero, List.getElem_cons_succ]
              refine wpAnyH_take (i := 20) (v := ?_) rfl (by kernel_rfl) (by kernel_rfl) (by kernel_rfl) (fun _ _ _ h => h) (Or.inl ⟨by rfl, ?_⟩) (by assumption) ?_
              rotate_left
              · intro w' hSw
                try dsimp only at hSw
                go_simp
                try with_reducible rfl
              try simp only [Act.put, List.setIfInBounds_toArray, List.set_cons_zero, List.set_cons_succ, List.getElem_toArray, List.getElem_cons_zero, List.getElem_cons_succ]
              refine wpAnyH_take (i := 21) (v := (.bool true)) rfl (by kernel_rfl) (by kernel_rfl) (by kernel_rfl) (fun _ _ _ h => h) (Or.inl ⟨by rfl, ?_⟩) (by assumption) ?_
              · intro w' hSw
                try dsimp only at hSw
                go_simp
                try (first | rfl | (simp only [IntKind.wrap_i64]; omega))
              try simp only [Act.put, List.setIfInBounds_toArray, List.set_cons_zero, List.set_cons_succ, List.getElem_toArray, List.getElem_cons_zero, List.getElem_cons_succ]
              refine wpAnyH_take (i := 22) (v := ?_) rfl (by kernel_rfl) (by kernel_rfl) (by kernel_rfl) (fun _ _ _ h => h) (Or.inl ⟨by rfl, ?_⟩) (by assumption) ?_
              rotate_left
              · intro w' hSw
                try dsimp only at hSw
                go_simp
                try with_reducible rfl
              try simp only [Act.put, List.setIfInBounds_toArray, List.set_cons_zero, List.set_cons_succ, List.getElem_toArray, List.getElem_cons_zero, List.getElem_cons_succ]
              refine wpAnyH_take (i := 23) (v := ?_) rfl (by kernel_rfl) (by kernel_rfl) (by kernel_rfl) (fun _ _ _ h => h) (Or.inl ⟨by rfl, ?_⟩) (by assumption) ?_
              rotate_left
              · intro w' hSw
                try dsimp only at hSw
                go_simp
                try with_reducible rfl
              try simp only [Act.put, List.setIfInBounds_toArray, List.set_cons_zero, List.set_cons_succ, List.getElem_toArray, List.getElem_cons_zero, List.getElem_cons_succ]
              refine wpAnyH_take (i := 24) (v := ?_) rfl (by kernel_rfl) (by kernel_rfl) (by kernel_rfl) (fun _ _ _ h => h) (Or.inl ⟨by rfl, ?_⟩) (by assumption) ?_
              rotate_left
              · intro w' hSw
                try dsimp only at hSw
                go_simp
                try with_reducible rfl
              try simp only [Act.put, List.setIfInBounds_toArray, List.set_cons_zero, List.set_cons_succ, List.getElem_toArray, List.getElem_cons_zero, List.getElem_cons_succ]
              refine wpAnyH_take (i := 25) (v := ?_) rfl (by kernel_rfl) (by kernel_rfl) (by kernel_rfl) (fun _ _ _ h => h) (Or.inl ⟨by rfl, ?_⟩) (by assumption) ?_
              rotate_left
              · intro w' hSw
                try dsimp only at hSw
                go_simp
                try with_reducible rfl
              try simp only [Act.put, List.setIfInBounds_toArray, List.set_cons_zero, List.set_cons_succ, List.getElem_toArray, List.getElem_cons_zero, List.getElem_cons_succ]
              refine wpAnyH_ready (rs := [26]) (by kernel_rfl) (by simp) ?_
              refine AllReadyH.cons rfl (fun K hK => ?_) ?_
              · go_simp
                go_at_call 28
                refine (CM1.out _ hHeld.1).mono ?_
                rintro e v7 ⟨rfl, hb7⟩
                have hx7 := below_link hHeld.1 hb7 hHeld.1.size
                refine hK.out _ _ ?_ (fun hHeld => ?_)
                · first | exact KS.out _ hx12 | exact KS.out _ hx11 | exact KS.out _ hx10 | exact KS.out _ hx9 | exact KS.out _ hx8 | exact KS.out _ hx7 | exact KS.out _ hx6 | exact KS.out _ hx5 | exact KS.out _ hx4 | exact KS.out _ hx3 | exact KS.out _ hx2 | exact KS.out _ hx1 | exact KS.out _ B0.out
                clear hK K
                try simp only [Act.put, List.setIfInBounds_toArray, List.set_cons_zero, List.set_cons_succ, List.getElem_toArray, List.getElem_cons_zero, List.getElem_cons_succ]
                refine wpAnyH_take (i := 27) (v := ?_) rfl (by kernel_rfl) (by kernel_rfl) (by kernel_rfl) (fun _ _ _ h => h) (Or.inl ⟨by rfl, ?_⟩) (by assumption) ?_
                rotate_left
                · intro w' hSw
                  try dsimp only at hSw
                  go_simp
                  try with_reducible rfl
                try simp only [Act.put, List.setIfInBounds_toArray, List.set_cons_zero, List.set_cons_succ, List.getElem_toArray, List.getElem_cons_zero, List.getElem_cons_succ]
                refine wpAnyH_take (i := 28) (v := ?_) rfl (by kernel_rfl) (by kernel_rfl) (by kernel_rfl) (fun _ _ _ h => h) (Or.inl ⟨by rfl, ?_⟩) (by assumption) ?_
                rotate_left
                · intro w' hSw
                  try dsimp only at hSw
                  go_simp
                  try with_reducible rfl
                try simp only [Act.put, List.setIfInBounds_toArray, List.set_cons_zero, List.set_cons_succ, List.getElem_toArray, List.getElem_cons_zero, List.getElem_cons_succ]
                refine wpAnyH_take (i := 29) (v := ?_) rfl (by kernel_rfl) (by kernel_rfl) (by kernel_rfl) (fun _ _ _ h => h) (Or.inl ⟨by rfl, ?_⟩) (by assumption) ?_
                rotate_left
                · intro w' hSw
                  try dsimp only at hSw
                  go_simp
                  try with_reducible rfl
                try simp only [Act.put, List.setIfInBounds_toArray, List.set_cons_zero, List.set_cons_succ, List.getElem_toArray, List.getElem_cons_zero, List.getElem_cons_succ]
                refine wpAnyH_take (i := 30) (v := ?_) rfl (by kernel_rfl) (by kernel_rfl) (by kernel_rfl) (fun _ _ _ h => h) (Or.inl ⟨by rfl, ?_⟩) (by assumption) ?_
                rotate_left
                · intro w' hSw
                  try dsimp only at hSw
                  go_simp
                  try with_reducible rfl
                try simp only [Act.put, List.setIfInBounds_toArray, List.set_cons_zero, List.set_cons_succ, List.getElem_toArray, List.getElem_cons_zero, List.getElem_cons_succ]
                refine wpAnyH_ready (rs := [31]) (by kernel_rfl) (by simp) ?_
                refine AllReadyH.cons rfl (fun K hK => ?_) ?_
                · go_simp
                  go_at_call 28
                  refine (CM2.out _ hHeld.1).mono ?_
                  rintro e v8 ⟨rfl, hb8⟩
                  have hx8 := below_link hHeld.1 hb8 hHeld.1.size
                  refine hK.out _ _ ?_ (fun hHeld => ?_)
                  · first | exact KS.out _ hx12 | exact KS.out _ hx11 | exact KS.out _ hx10 | exact KS.out _ hx9 | exact KS.out _ hx8 | exact KS.out _ hx7 | exact KS.out _ hx6 | exact KS.out _ hx5 | exact KS.out _ hx4 | exact KS.out _ hx3 | exact KS.out _ hx2 | exact KS.out _ hx1 | exact KS.out _ B0.out
                  clear hK K
                  try simp only [Act.put, List.setIfInBounds_toArray, List.set_cons_zero, List.set_cons_succ, List.getElem_toArray, List.getElem_cons_zero, List.getElem_cons_succ]
                  refine wpAnyH_take (i := 32) (v := ?_) rfl (by kernel_rfl) (by kernel_rfl) (by kernel_rfl) (fun _ _ _ h => h) (Or.inl ⟨by rfl, ?_⟩) (by assumption) ?_
                  rotate_left
                  · intro w' hSw
                    try dsimp only at hSw
                    go_simp
                    try with_reducible rfl
                  try simp only [Act.put, List.setIfInBounds_toArray, List.set_cons_zero, List.set_cons_succ, List.getElem_toArray, List.getElem_cons_zero, List.getElem_cons_succ]
                  refine wpAnyH_take (i := 33) (v := ?_) rfl (by kernel_rfl) (by kernel_rfl) (by kernel_rfl) (fun _ _ _ h => h) (Or.inl ⟨by rfl, ?_⟩) (by assumption) ?_
                  rotate_left
                  · intro w' hSw
                    try dsimp only at hSw
                    go_simp
                    try with_reducible rfl
                  try simp only [Act.put, List.setIfInBounds_toArray, List.set_cons_zero, List.set_cons_succ, List.getElem_toArray, List.getElem_cons_zero, List.getElem_cons_succ]
                  refine wpAnyH_take (i := 34) (v := ?_) rfl (by kernel_rfl) (by kernel_rfl) (by kernel_rfl) (fun _ _ _ h => h) (Or.inl ⟨by rfl, ?_⟩) (by assumption) ?_
                  rotate_left
                  · intro w' hSw
                    try dsimp only at hSw
                    go_simp
                    try with_reducible rfl
                  try simp only [Act.put, List.setIfInBounds_toArray, List.set_cons_zero, List.set_cons_succ, List.getElem_toArray, List.getElem_cons_zero, List.getElem_cons_succ]
                  refine wpAnyH_take (i := 35) (v := ?_) rfl (by kernel_rfl) (by kernel_rfl) (by kernel_rfl) (fun _ _ _ h => h) (Or.inl ⟨by rfl, ?_⟩) (by assumption) ?_
                  rotate_left
                  · intro w' hSw
                    try dsimp only at hSw
                    go_simp
                    try with_reducible rfl
                  try simp only [Act.put, List.setIfInBounds_toArray, List.set_cons_zero, List.set_cons_succ, List.getElem_toArray, List.getElem_cons_zero, List.getElem_cons_succ]
                  refine wpAnyH_ready (rs := [36]) (by kernel_rfl) (by simp) ?_
                  refine AllReadyH.cons rfl (fun K hK => ?_) ?_
                  · go_simp
                    go_at_call 19
                    refine (COk.out _ hHeld.1).mono ?_
                    rintro e v9 ⟨rfl, hb9⟩
                    have hx9 := below_link hHeld.1 hb9 hHeld.1.size
                    refine hK.out _ _ ?_ (fun hHeld => ?_)
                    · first | exact KS.out _ hx12 | exact KS.out _ hx11 | exact KS.out _ hx10 | exact KS.out _ hx9 | exact KS.out _ hx8 | exact KS.out _ hx7 | exact KS.out _ hx6 | exact KS.out _ hx5 | exact KS.out _ hx4 | exact KS.out _ hx3 | exact KS.out _ hx2 | exact KS.out _ hx1 | exact KS.out _ B0.out
                    clear hK K
                    try simp only [Act.put, List.setIfInBounds_toArray, List.set_cons_zero, List.set_cons_succ, List.getElem_toArray, List.getElem_cons_zero, List.getElem_cons_succ]
                    refine wpAnyH_take (i := 37) (v := ?_) rfl (by kernel_rfl) (by kernel_rfl) (by kernel_rfl) (fun _ _ _ h => h) (Or.inl ⟨by rfl, ?_⟩) (by assumption) ?_
                    rotate_left
                    · intro w' hSw
                      try dsimp only at hSw
                      go_simp
                      try with_reducible rfl
                    try simp only [Act.put, List.setIfInBounds_toArray, List.set_cons_zero, List.set_cons_succ, List.getElem_toArray, List.getElem_cons_zero, List.getElem_cons_succ]
                    refine wpAnyH_take (i := 38) (v := ?_) rfl (by kernel_rfl) (by kernel_rfl) (by kernel_rfl) (fun _ _ _ h => h) (Or.inl ⟨by rfl, ?_⟩) (by assumption) ?_
                    rotate_left
                    · intro w' hSw
                      try dsimp only at hSw
                      go_simp
                      try with_reducible rfl
                    try simp only [Act.put, List.setIfInBounds_toArray, List.set_cons_zero, List.set_cons_succ, List.getElem_toArray, List.getElem_cons_zero, List.getElem_cons_succ]
                    refine wpAnyH_ready (rs := [39]) (by kernel_rfl) (by simp) ?_
                    refine AllReadyH.cons rfl (fun K hK => ?_) ?_
                    · go_simp
                      go_at_call 29
                      refine (CTx.out _).mono ?_
                      rintro e v10 ⟨⟨f10, u10, G10, rfl, o10, m10⟩, hb10⟩
                      have hx10 := below_link hHeld.1 hb10 hHeld.1.size
                      refine hK.out _ _ ?_ (fun hHeld => ?_)
                      · first | exact KS.out _ hx12 | exact KS.out _ hx11 | exact KS.out _ hx10 | exact KS.out _ hx9 | exact KS.out _ hx8 | exact KS.out _ hx7 | exact KS.out _ hx6 | exact KS.out _ hx5 | exact KS.out _ hx4 | exact KS.out _ hx3 | exact KS.out _ hx2 | exact KS.out _ hx1 | exact KS.out _ B0.out
                      clear hK K
                      try simp only [Act.put, List.setIfInBounds_toArray, List.set_cons_zero, List.set_cons_succ, List.getElem_toArray, List.getElem_cons_zero, List.getElem_cons_succ]
                      refine wpAnyH_ready (rs := [40]) (by kernel_rfl) (by simp) ?_
                      refine AllReadyH.cons rfl (fun K hK => ?_) ?_
                      · go_simp
                        go_at_call 22
                        refine (impl_size _ (textT ⟨#[97]⟩) _ _ o10.lies (by simp [textT, size, sizes])).mono ?_
                        rintro e v11 ⟨rfl, hb11⟩
                        have hx11 := below_link hHeld.1 hb11 hHeld.1.size
                        refine hK.out _ _ ?_ (fun hHeld => ?_)
                        · first | exact KS.out _ hx12 | exact KS.out _ hx11 | exact KS.out _ hx10 | exact KS.out _ hx9 | exact KS.out _ hx8 | exact KS.out _ hx7 | exact KS.out _ hx6 | exact KS.out _ hx5 | exact KS.out _ hx4 | exact KS.out _ hx3 | exact KS.out _ hx2 | exact KS.out _ hx1 | exact KS.out _ B0.out
                        clear hK K
                        try simp only [Act.put, List.setIfInBounds_toArray, List.set_cons_zero, List.set_cons_succ, List.getElem_toArray, List.getElem_cons_zero, List.getElem_cons_succ]
                        refine wpAnyH_take (i := 41) (v := (.bool true)) rfl (by kernel_rfl) (by kernel_rfl) (by kernel_rfl) (fun _ _ _ h => h) (Or.inl ⟨by rfl, ?_⟩) (by assumption) ?_
                        · intro w' hSw
                          try dsimp only at hSw
                          go_simp
                          try (first | rfl | (simp only [IntKind.wrap_i64]; omega))
                        try simp only [Act.put, List.setIfInBounds_toArray, List.set_cons_zero, List.set_cons_succ, List.getElem_toArray, List.getElem_cons_zero, List.getElem_cons_succ]
                        refine wpAnyH_take (i := 42) (v := ?_) rfl (by kernel_rfl) (by kernel_rfl) (by kernel_rfl) (fun _ _ _ h => h) (Or.inl ⟨by rfl, ?_⟩) (by assumption) ?_
                        rotate_left
                        · intro w' hSw
                          try dsimp only at hSw
                          go_simp
                          try with_reducible rfl
                        try simp only [Act.put, List.setIfInBounds_toArray, List.set_cons_zero, List.set_cons_succ, List.getElem_toArray, List.getElem_cons_zero, List.getElem_cons_succ]
                        refine wpAnyH_take (i := 43) (v := ?_) rfl (by kernel_rfl) (by kernel_rfl) (by kernel_rfl) (fun _ _ _ h => h) (Or.inl ⟨by rfl, ?_⟩) (by assumption) ?_
                        rotate_left
                        · intro w' hSw
                          try dsimp only at hSw
                          go_simp
                          try with_reducible rfl
                        try simp only [Act.put, List.setIfInBounds_toArray, List.set_cons_zero, List.set_cons_succ, List.getElem_toArray, List.getElem_cons_zero, List.getElem_cons_succ]
                        refine wpAnyH_ready (rs := [44]) (by kernel_rfl) (by simp) ?_
                        refine AllReadyH.cons rfl (fun K hK => ?_) ?_
                        · go_simp
                          go_at_call 30
                          refine (CIn.out _).mono ?_
                          rintro e v12 ⟨⟨f12, u12, G12, rfl, o12, m12⟩, hb12⟩
                          obtain ⟨_, _, _, _, rfl, _⟩ := open_tree o12.lies
                          have hx12 := below_link hHeld.1 hb12 hHeld.1.size
                          refine hK.out _ _ ?_ (fun hHeld => ?_)
                          · first | exact KS.out _ hx12 | exact KS.out _ hx11 | exact KS.out _ hx10 | exact KS.out _ hx9 | exact KS.out _ hx8 | exact KS.out _ hx7 | exact KS.out _ hx6 | exact KS.out _ hx5 | exact KS.out _ hx4 | exact KS.out _ hx3 | exact KS.out _ hx2 | exact KS.out _ hx1 | exact KS.out _ B0.out
                          clear hK K
                          try simp only [Act.put, List.setIfInBounds_toArray, List.set_cons_zero, List.set_cons_succ, List.getElem_toArray, List.getElem_cons_zero, List.getElem_cons_succ]
                          refine wpAnyH_take (i := 45) (v := (.int .i64 5)) rfl (by kernel_rfl) (by kernel_rfl) (by kernel_rfl) (fun _ _ _ h => h) (Or.inl ⟨by rfl, ?_⟩) (by assumption) ?_
                          · intro w' hSw
                            try dsimp only at hSw
                            go_simp
                            try (first | rfl | (simp only [hF, Result.andThen_ok]))
                          try simp only [Act.put, List.setIfInBounds_toArray, List.set_cons_zero, List.set_cons_succ, List.getElem_toArray, List.getElem_cons_zero, List.getElem_cons_succ]
                          refine wpAnyH_take (i := 46) (v := (.bool true)) rfl (by kernel_rfl) (by kernel_rfl) (by kernel_rfl) (fun _ _ _ h => h) (Or.inl ⟨by rfl, ?_⟩) (by assumption) ?_
                          · intro w' hSw
                            try dsimp only at hSw
                            go_simp
                            try (first | rfl | (simp only [IntKind.wrap_i64]; omega))
                          try simp only [Act.put, List.setIfInBounds_toArray, List.set_cons_zero, List.set_cons_succ, List.getElem_toArray, List.getElem_cons_zero, List.getElem_cons_succ]
                          refine wpAnyH_take (i := 47) (v := ?_) rfl (by kernel_rfl) (by kernel_rfl) (by kernel_rfl) (fun _ _ _ h => h) (Or.inl ⟨by rfl, ?_⟩) (by assumption) ?_
                          rotate_left
                          · intro w' hSw
                            try dsimp only at hSw
                            go_simp
                            try with_reducible rfl
                          try simp only [Act.put, List.setIfInBounds_toArray, List.set_cons_zero, List.set_cons_succ, List.getElem_toArray, List.getElem_cons_zero, List.getElem_cons_succ]
                          refine wpAnyH_take (i := 48) (v := ?_) rfl (by kernel_rfl) (by kernel_rfl) (by kernel_rfl) (fun _ _ _ h => h) (Or.inl ⟨by rfl, ?_⟩) (by assumption) ?_
                          rotate_left
                          · intro w' hSw
                            try dsimp only at hSw
                            go_simp
                            try with_reducible rfl
                          try simp only [Act.put, List.setIfInBounds_toArray, List.set_cons_zero, List.set_cons_succ, List.getElem_toArray, List.getElem_cons_zero, List.getElem_cons_succ]
                          refine wpAnyH_done (by kernel_rfl) ?_ _
                          have hend := below_link Hb5.out hHeld.1 Hb5.out.size
                          go_wp2_with fail
                          go_ret
                          exact ⟨rfl, hend⟩
                        exact AllReadyH.nil
                      exact AllReadyH.nil
                    exact AllReadyH.nil
                  exact AllReadyH.nil
                exact AllReadyH.nil
              exact AllReadyH.nil
            exact AllReadyH.nil
          exact AllReadyH.nil
        exact AllReadyH.nil
      exact AllReadyH.nil
    exact AllReadyH.nil
  exact AllReadyH.nil
end Go.Proofs.YtlnfbpdicjcpgaaDoor.fnTreeSizes
