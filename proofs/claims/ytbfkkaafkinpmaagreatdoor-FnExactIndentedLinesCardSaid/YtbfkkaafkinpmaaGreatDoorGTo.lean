/- Merged: TrFokI TrOkI. -/
import Derived.Test.YtbfkkaafkinpmaaGreatDoorGFia
import Derived.Test.YtbfkkaafkinpmaaGreatDoorGFie
import Derived.Deep.RegionHeld3
import Derived.Test.YtbfkkaafkinpmaaGreatDoorGIter
namespace Go.Proofs.YtbfkkaafkinpmaaGreatDoor.tree
open Go.ChangeShapes Go.WideShapes Go.ChangeAt Go.RowKit
open rune (Tabs)
set_option linter.unusedVariables false

set_option maxRecDepth 100000 in
set_option maxHeartbeats 8000000 in
theorem fields_no (k : Int) (fl : Bool) (n : Int) (s : ByteArray) (A1 A2 : Option Addr) (n1 c1 n2 c2 : Nat) (w : World) (hk : ¬ (1 ≤ k ∧ k ≤ 6)) :
    Calls Tryz.prog 36 #[.agg #[.int .i64 k, .bool fl, .int .i64 n, .string s, .slice A1 n1 c1, .slice A2 n2 c2]] w fun e w' => e = .returned (.bool false) ∧ Below w.heap.size w w' := by
  obtain ⟨w1, hw1⟩ : ∃ w1, w1 = w.alloc (.cells #[.int .i64 k, .bool fl, .int .i64 n, .string s, .slice A1 n1 c1, .slice A2 n2 c2] 30) := ⟨_, rfl⟩
  have hb1 : Below w.heap.size w w1 := by rw [hw1]; exact (Below.refl _ _).alloc (Nat.le_refl _) _
  have hp : Row6 w1 w.heap.size (.int .i64 k) (.bool fl) (.int .i64 n) (.string s) (.slice A1 n1 c1) (.slice A2 n2 c2) := by rw [hw1]; exact Row6.of (heap_alloc_new w _)
  have HN := Lib.hid (nodeOf_no k fl n s A1 A2 n1 c1 n2 c2 w1 hk)
  have Hw1 := Lib.hid hw1
  have Hb1 := Lib.hid hb1
  have Hp := Lib.hid hp
  clear hw1 hb1 hp hk
  obtain ⟨p0, p1, p2, p3, p4, p5⟩ := Hp.out
  rw [Hw1.out] at p0 p1 p2 p3 p4 p5
  go_enter Tryz.func36, Tryz.ntmps36
  go_wp2_with fail
  rw [← Hw1.out]
  refine HN.out.mono ?_
  rintro e w2 ⟨rfl, hb2⟩
  have Hb2 := Lib.hid (Hb1.out.trans (hb2.mono Hb1.out.size))
  obtain ⟨q0, q1, q2, q3, q4, q5⟩ := Hp.out.below hb2
  clear hb2 p0 p1 p2 p3 p4 p5 HN
  have KS := Lib.hid (show ∀ w', Below w2.heap.size w2 w' → Below w2.heap.size w2 w' from fun w' hb => hb)
  go_wp2_with fail
  refine wp_region_held_drew (S := (fun w' => Below w2.heap.size w2 w')) (by kernel_rfl) ?_ (fun hHeld => ?_)
  · exact KS.out _ (Below.refl _ _).drew
  refine wpAnyH_take (i := 0) (v := ?_) rfl (by kernel_rfl) (by kernel_rfl) (by kernel_rfl) (fun _ _ _ h => h) (Or.inl ⟨by rfl, ?_⟩) (by assumption) ?_
  rotate_left
  · intro w' hSw
    try dsimp only at hSw
    go_simp
    try with_reducible rfl
  try simp only [Act.put, List.setIfInBounds_toArray, List.set_cons_zero, List.set_cons_succ, List.getElem_toArray, List.getElem_cons_zero, List.getElem_cons_succ]
  refine wpAnyH_take (i := 1) (v := ?_) rfl (by kernel_rfl) (by kernel_rfl) (by kernel_rfl) (fun _ _ _ h => h) (Or.inl ⟨by rfl, ?_⟩) (by assumption) ?_
  rotate_left
  · intro w' hSw
    try dsimp only at hSw
    go_simp
    try with_reducible rfl
  try simp only [Act.put, List.setIfInBounds_toArray, List.set_cons_zero, List.set_cons_succ, List.getElem_toArray, List.getElem_cons_zero, List.getElem_cons_succ]
  refine wpAnyH_take (i := 2) (v := undef) rfl (by kernel_rfl) (by kernel_rfl) (by kernel_rfl) (fun _ _ _ h => h) (Or.inr ⟨by rfl, rfl⟩) (by assumption) ?_
  try simp only [Act.put, List.setIfInBounds_toArray, List.set_cons_zero, List.set_cons_succ, List.getElem_toArray, List.getElem_cons_zero, List.getElem_cons_succ]
  refine wpAnyH_take (i := 3) (v := undef) rfl (by kernel_rfl) (by kernel_rfl) (by kernel_rfl) (fun _ _ _ h => h) (Or.inr ⟨by rfl, rfl⟩) (by assumption) ?_
  try simp only [Act.put, List.setIfInBounds_toArray, List.set_cons_zero, List.set_cons_succ, List.getElem_toArray, List.getElem_cons_zero, List.getElem_cons_succ]
  refine wpAnyH_take (i := 4) (v := undef) rfl (by kernel_rfl) (by kernel_rfl) (by kernel_rfl) (fun _ _ _ h => h) (Or.inr ⟨by rfl, rfl⟩) (by assumption) ?_
  try simp only [Act.put, List.setIfInBounds_toArray, List.set_cons_zero, List.set_cons_succ, List.getElem_toArray, List.getElem_cons_zero, List.getElem_cons_succ]
  refine wpAnyH_take (i := 5) (v := undef) rfl (by kernel_rfl) (by kernel_rfl) (by kernel_rfl) (fun _ _ _ h => h) (Or.inr ⟨by rfl, rfl⟩) (by assumption) ?_
  try simp only [Act.put, List.setIfInBounds_toArray, List.set_cons_zero, List.set_cons_succ, List.getElem_toArray, List.getElem_cons_zero, List.getElem_cons_succ]
  refine wpAnyH_take (i := 6) (v := ?_) rfl (by kernel_rfl) (by kernel_rfl) (by kernel_rfl) (fun _ _ _ h => h) (Or.inl ⟨by rfl, ?_⟩) (by assumption) ?_
  rotate_left
  · intro w' hSw
    try dsimp only at hSw
    go_simp
    try with_reducible rfl
  try simp only [Act.put, List.setIfInBounds_toArray, List.set_cons_zero, List.set_cons_succ, List.getElem_toArray, List.getElem_cons_zero, List.getElem_cons_succ]
  refine wpAnyH_take (i := 7) (v := ?_) rfl (by kernel_rfl) (by kernel_rfl) (by kernel_rfl) (fun _ _ _ h => h) (Or.inl ⟨by rfl, ?_⟩) (by assumption) ?_
  rotate_left
  · intro w' hSw
    try dsimp only at hSw
    go_simp
    try with_reducible rfl
  try simp only [Act.put, List.setIfInBounds_toArray, List.set_cons_zero, List.set_cons_succ, List.getElem_toArray, List.getElem_cons_zero, List.getElem_cons_succ]
  refine wpAnyH_take (i := 8) (v := undef) rfl (by kernel_rfl) (by kernel_rfl) (by kernel_rfl) (fun _ _ _ h => h) (Or.inr ⟨by rfl, rfl⟩) (by assumption) ?_
  try simp only [Act.put, List.setIfInBounds_toArray, List.set_cons_zero, List.set_cons_succ, List.getElem_toArray, List.getElem_cons_zero, List.getElem_cons_succ]
  refine wpAnyH_take (i := 9) (v := undef) rfl (by kernel_rfl) (by kernel_rfl) (by kernel_rfl) (fun _ _ _ h => h) (Or.inr ⟨by rfl, rfl⟩) (by assumption) ?_
  try simp only [Act.put, List.setIfInBounds_toArray, List.set_cons_zero, List.set_cons_succ, List.getElem_toArray, List.getElem_cons_zero, List.getElem_cons_succ]
  refine wpAnyH_take (i := 10) (v := ?_) rfl (by kernel_rfl) (by kernel_rfl) (by kernel_rfl) (fun _ _ _ h => h) (Or.inl ⟨by rfl, ?_⟩) (by assumption) ?_
  rotate_left
  · intro w' hSw
    try dsimp only at hSw
    go_simp
    try with_reducible rfl
  try simp only [Act.put, List.setIfInBounds_toArray, List.set_cons_zero, List.set_cons_succ, List.getElem_toArray, List.getElem_cons_zero, List.getElem_cons_succ]
  refine wpAnyH_take (i := 11) (v := ?_) rfl (by kernel_rfl) (by kernel_rfl) (by kernel_rfl) (fun _ _ _ h => h) (Or.inl ⟨by rfl, ?_⟩) (by assumption) ?_
  rotate_left
  · intro w' hSw
    try dsimp only at hSw
    go_simp
    try with_reducible rfl
  try simp only [Act.put, List.setIfInBounds_toArray, List.set_cons_zero, List.set_cons_succ, List.getElem_toArray, List.getElem_cons_zero, List.getElem_cons_succ]
  refine wpAnyH_done (by kernel_rfl) ?_ _
  go_wp2_with fail
  go_ret
  exact ⟨by rfl, Hb2.out.trans (hHeld.mono Hb2.out.size)⟩

theorem impl_fok (f : Nat) (t : T) (vs : List Value) (w : World) (h : LiesS w f vs (row t)) (hT : Tabs w) :
    Calls Tryz.prog 36 #[.agg vs.toArray] w fun e w' => e = .returned (.bool (dec (Node t))) ∧ Below w.heap.size w w' := by
  obtain ⟨k, fl, n, s, ks, kids⟩ := t
  obtain ⟨A1, c1, A2, c2, rfl, _, _, _, _, _, _, _, _, _, _⟩ := open_tree h
  by_cases hk : 1 ≤ k ∧ k ≤ 6
  · have : k = 1 ∨ k = 2 ∨ k = 3 ∨ k = 4 ∨ k = 5 ∨ k = 6 := by omega
    rcases this with rfl | rfl | rfl | rfl | rfl | rfl
    · exact fields_1 fl n s ks kids A1 A2 c1 c2 w h hT
    · exact fields_2 fl n s ks kids A1 A2 c1 c2 w h hT
    · exact fields_3 fl n s ks kids A1 A2 c1 c2 w h hT
    · exact fields_4 fl n s ks kids A1 A2 c1 c2 w h hT
    · exact fields_5 fl n s ks kids A1 A2 c1 c2 w h hT
    · exact fields_6 fl n s ks kids A1 A2 c1 c2 w h hT
  · rw [node_no fl n s ks kids hk]
    exact fields_no k fl n s A1 A2 ks.length c1 kids.length c2 w hk
end Go.Proofs.YtbfkkaafkinpmaaGreatDoor.tree
namespace Go.Proofs.YtbfkkaafkinpmaaGreatDoor.tree
open Go.ChangeShapes Go.WideShapes Go.ChangeAt Go.RowKit Go.Shelf
open rune (Tabs)
set_option linter.unusedVariables false
attribute [local go_sem] Oper.semAt_some

theorem results_bool {fn : Func} {p : Tmp} (h : fn.results = #[.cell p 4]) (tmps : Array Value) (w : World) (g : Nat) (b : Bool) (hp : tmps.getD p undef = .pointer (some ⟨g, 0, none⟩)) (hc : w.cell? ⟨g, 0, none⟩ = some (.bool b)) :
    (results fn tmps).run Tryz.prog w = .ok (.bool b) w := by
  have hp' : tmps[p]?.getD undef = .pointer (some ⟨g, 0, none⟩) := by simpa using hp
  have ha := run_isAgg_plain (P := Tryz.prog) Tryz.underlying4 rfl w
  simp [results, h, hp', asAddr, loadVar, Sem.run_bind, ha, hc]
theorem kept_set {X : List Nat} (W : World) {g j : Nat} (v : Value) (h : g ∈ X) : KeptBut X W (W.setCell ⟨g, j, none⟩ v) :=
  ⟨rfl, rfl, rfl, by simp, fun b _ hb => Below.heap_setCell _ _ _ _ (fun e => hb (by rw [e]; exact h))⟩

set_option maxRecDepth 100000 in
set_option maxHeartbeats 8000000 in
theorem impl_okay (f : Nat) (t : T) (vs : List Value) (w : World) (h : LiesS w f vs (row t)) (hsz : size t ≤ 1099511627776) (hT : Tabs w) :
    Calls Tryz.prog 22 #[.agg vs.toArray] w fun e w' => e = .returned (.bool (dec (Ok t))) ∧ Below w.heap.size w w' := by
  refine (callsIn_wide (n := 5)).1 ?_
  obtain ⟨k, fl, m, s, ks, kids⟩ := t
  obtain ⟨A1, c1, A2, c2, rfl, _, _, _, _, _, _, _, _, _, _⟩ := open_tree h
  obtain ⟨t, ht⟩ : ∃ t, t = T.mk k fl m s ks kids := ⟨_, rfl⟩
  rw [← ht] at h hsz ⊢
  obtain ⟨w3, hw3⟩ : ∃ w3, w3 = (((w.alloc (.cells #[.int .i64 k, .bool fl, .int .i64 m, .string s, .slice A1 ks.length c1, .slice A2 kids.length c2] 30)).alloc (.cells #[.bool false] 4)).alloc (.cells #[.int .i64 0] 3)).alloc (.cells #[.int .i64 k, .bool fl, .int .i64 m, .string s, .slice A1 ks.length c1, .slice A2 kids.length c2] 30) := ⟨_, rfl⟩
  have hs3 : w3.heap.size = w.heap.size + 4 := by rw [hw3]; simp
  have hb3 : Below w.heap.size w w3 := by rw [hw3]; exact ((((Below.refl _ w).alloc (Nat.le_refl _) _).alloc (by simp) _).alloc (by simp; omega) _).alloc (by simp; omega) _
  have hrow : w3.heap[w.heap.size + 1 + 1 + 1]? = some (.cells #[.int .i64 k, .bool fl, .int .i64 m, .string s, .slice A1 ks.length c1, .slice A2 kids.length c2] 30 (0, 0)) := by
    have h := heap_alloc_new (((w.alloc (.cells #[.int .i64 k, .bool fl, .int .i64 m, .string s, .slice A1 ks.length c1, .slice A2 kids.length c2] 30)).alloc (.cells #[.bool false] 4)).alloc (.cells #[.int .i64 0] 3)) (.cells #[.int .i64 k, .bool fl, .int .i64 m, .string s, .slice A1 ks.length c1, .slice A2 kids.length c2] 30)
    rw [World.size_alloc, World.size_alloc, World.size_alloc] at h
    rw [hw3]
    exact h
  have hbox : w3.heap[w.heap.size + 1 + 1]? = some (.cells #[.int .i64 0] 3 (0, 0)) := by
    have h := heap_alloc_new ((w.alloc (.cells #[.int .i64 k, .bool fl, .int .i64 m, .string s, .slice A1 ks.length c1, .slice A2 kids.length c2] 30)).alloc (.cells #[.bool false] 4)) (.cells #[.int .i64 0] 3)
    rw [World.size_alloc, World.size_alloc] at h
    rw [hw3, Below.heap_alloc _ _ _ (by simp)]
    exact h
  have hres : w3.heap[w.heap.size + 1]? = some (.cells #[.bool false] 4 (0, 0)) := by
    have h := heap_alloc_new (w.alloc (.cells #[.int .i64 k, .bool fl, .int .i64 m, .string s, .slice A1 ks.length c1, .slice A2 kids.length c2] 30)) (.cells #[.bool false] 4)
    rw [World.size_alloc] at h
    rw [hw3, Below.heap_alloc _ _ _ (by simp), Below.heap_alloc _ _ _ (by simp)]
    exact h
  have Hiter := Lib.hid (iter_tree (5 - 1) f t _ w w3 h hsz (w.heap.size + 1 + 1 + 1) hb3 (by omega) hrow)
  have HOK := Lib.hid (ok_pre t)
  have HF := Lib.hid (fun x us W' (hb : Below w.heap.size w W') (hl : LiesS w f us (row x)) => (callsIn_wide (n := 2)).2 (impl_fok f x us W' (hl.below hb) (hT.below hb)))
  have Hb3 := Lib.hid hb3
  have Hbox := Lib.hid hbox
  have Hres := Lib.hid hres
  have Hs3 := Lib.hid hs3
  have Hw3 := Lib.hid hw3
  have Hht := Lib.hid ht
  clear ht h hsz hb3 hrow hbox hres hs3 hw3 hT
  refine callsIn_of_wp_marks Tryz.func22 rfl trivial ?_ rfl
  simp only [Tryz.ntmps22, List.size_toArray, List.length_cons, List.length_nil, Nat.reduceAdd, Nat.reduceSub, Array.replicate_succ, Array.replicate_zero, List.push_toArray, List.append_toArray, List.nil_append, List.cons_append]
  gi_wp2_with (refine ⟨trivial, ?_⟩; gi_at_call 35; refine (callsIn_wide.2 (treesIn_call k fl m s _ _ _)).mono ?_; rintro e w' ⟨rfl, rfl⟩)
  rw [← Hw3.out]
  refine wpIn_range_iterA rfl (enters_of Tryz.func46 (by kernel_rfl) rfl) Hiter.out (fun x args h => by obtain ⟨us, rfl, _⟩ := h; rfl) [w.heap.size + 1, w.heap.size + 1 + 1] (fun x hx => by simp at hx; have := Hs3.out; omega)
    (fun x hx => by have := Hs3.out; omega)
    (fun p W => W.heap[w.heap.size + 1 + 1]? = some (.cells #[.int .i64 (p.length : Nat)] 3 (0, 0)) ∧ W.heap[w.heap.size + 1]? = some (.cells #[.bool false] 4 (0, 0)) ∧ Below w.heap.size w W ∧ (p.length ≤ 300 ∧ ∀ x ∈ p, x.2 ≤ 8 ∧ Node x.1))
    (fun p W => W.heap[w.heap.size + 1]? = some (.cells #[.bool false] 4 (0, 0)) ∧ Below w.heap.size w W ∧ ¬ Ok t)
    (fun p A B hi hb => ⟨(hb.block _ (by have := Hs3.out; omega)).trans hi.1, (hb.block _ (by have := Hs3.out; omega)).trans hi.2.1, hi.2.2.1.trans (hb.mono (by have := Hs3.out; omega)), hi.2.2.2⟩)
    (fun p A B hi hb => ⟨(hb.block _ (by have := Hs3.out; omega)).trans hi.1, hi.2.1.trans (hb.mono (by have := Hs3.out; omega)), hi.2.2⟩) ⟨Hbox.out, Hres.out, Hb3.out, by simp, fun x hx => by simp at hx⟩
    (fun x args a1 W W1 => ∃ u0 u1 u2 u3 u4 u5, args = #[.agg #[u0, u1, u2, u3, u4, u5], .int .i64 (x.2 : Nat)] ∧ LiesS w f [u0, u1, u2, u3, u4, u5] (row x.1) ∧ W1 = W.alloc (.cells #[u0, u1, u2, u3, u4, u5] 30) ∧
      a1 = { tmps := #[.agg #[.int .i64 k, .bool fl, .int .i64 m, .string s, .slice A1 ks.length c1, .slice A2 kids.length c2], .pointer (some ⟨w.heap.size, 0, none⟩), .pointer (some ⟨w.heap.size + 1, 0, none⟩), .pointer (some ⟨w.heap.size + 1 + 1, 0, none⟩), .pointer (some ⟨W.heap.size, 0, none⟩), .int .i64 (x.2 : Nat), .agg #[.int .i64 k, .bool fl, .int .i64 m, .string s, .slice A1 ks.length c1, .slice A2 kids.length c2], .func (.func 46) #[] #[.pointer (some ⟨w.heap.size + 1 + 1 + 1, 0, none⟩)], .agg #[u0, u1, u2, u3, u4, u5], .int .i64 (x.2 : Nat), undef, undef, undef, undef, undef, undef, undef, undef, undef, undef, undef, undef, undef], defers := [] })
    (fun x args a1 W W1 h => by obtain ⟨u0, u1, u2, u3, u4, u5, _, _, rfl, _⟩ := h; exact (Below.refl _ _).alloc (Nat.le_refl _) _) ?assign ?body ?done ?stop
  case assign =>
    rintro l x _ W K ⟨us, rfl, hx⟩ hW hK
    obtain ⟨u0, u1, u2, u3, u4, u5, rfl⟩ := six_of (hx.1.trans (row_length x.1))
    have HK := Lib.hid (hK _ _ ⟨u0, u1, u2, u3, u4, u5, rfl, hx, rfl, rfl⟩)
    have hone := LiesS.one hx
    clear hK hx
    iterate 6 (first | go_values | gi_guarded | gi_step | gi_upon)
    refine wpListIn_store_row rfl 30 _ _ rfl W.heap.size #[u0, u1, u2, u3, u4, u5] rfl rfl 30 _ (heap_alloc_new W _) tree_six rfl hone ?_
    rw [World.setRow_alloc_new]
    gi_wp2
    exact HK.out
  case body =>
    rintro l p x _ a1 W W1 W2 ⟨hrow, hres, hbel, hlen, hall⟩ hpre _ hW ⟨u0, u1, u2, u3, u4, u5, rfl, hx, rfl, rfl⟩ hk2
    obtain ⟨⟨k', fl', n', s', ks', kids'⟩, d⟩ := x
    obtain ⟨A1', c1', A2', c2', e, _, _, _, _, _, _, _, _, _, _⟩ := open_tree hx
    obtain ⟨rfl, rfl, rfl, rfl, rfl, rfl⟩ : u0 = _ ∧ u1 = _ ∧ u2 = _ ∧ u3 = _ ∧ u4 = _ ∧ u5 = _ := by simpa using e
    have hin : ((T.mk k' fl' n' s' ks' kids'), d) ∈ pre 1 t := by obtain ⟨r, hr⟩ := hpre; rw [← hr]; simp
    have hle : p.length + 1 ≤ (pre 1 t).length := by have := hpre.length_le; simpa using this
    obtain ⟨W3, hW3⟩ : ∃ W3, W3 = (W2.setCell ⟨w.heap.size + 1 + 1, 0, none⟩ (.int .i64 ((p.length : Int) + 1))) := ⟨_, rfl⟩
    have hwr : W.heap.size ≠ w.heap.size + 1 + 1 := by have := Hs3.out; omega
    have hnx : W3.heap[W.heap.size]? = some (.cells #[.int .i64 k', .bool fl', .int .i64 n', .string s', .slice A1' ks'.length c1', .slice A2' kids'.length c2'] 30 (0, 0)) := by
      rw [hW3, Below.heap_setCell _ _ _ _ hwr, hk2.block _ (by simp) (by simp; have := Hs3.out; omega)]
      exact heap_alloc_new W _
    have hrow3 : W3.heap[w.heap.size + 1 + 1]? = some (.cells #[.int .i64 ((p.length : Int) + 1)] 3 (0, 0)) := by
      rw [hW3, heap_setCell_same W2 _ 0 _ _ _ hrow]
      rfl
    have hres3 : W3.heap[w.heap.size + 1]? = some (.cells #[.bool false] 4 (0, 0)) := by
      rw [hW3, Below.heap_setCell _ _ _ _ (by simp)]
      exact hres
    have hbel3 : Below w.heap.size w W3 := by rw [hW3]; exact hbel.setCell (p := ⟨w.heap.size + 1 + 1, 0, none⟩) (by simp; omega) _
    have hkp3 : KeptBut [w.heap.size + 1, w.heap.size + 1 + 1] W2 W3 := by rw [hW3]; exact kept_set _ _ (by simp)
    have hc : W2.cell? ⟨w.heap.size + 1 + 1, 0, none⟩ = some (.int .i64 (p.length : Nat)) := by rw [cell_of_row W2 _ 0 _ _ _ hrow]; rfl
    have hf := frozen_of_row W2 (w.heap.size + 1 + 1) 0 _ _ hrow
    have hp : (p.length : Int) + 1 ≤ 9223372036854775807 := by omega
    have hd : d ≤ 8 ∨ ¬ d ≤ 8 := by omega
    have hc3 : W3.cell? ⟨w.heap.size + 1 + 1, 0, none⟩ = some (.int .i64 ((p.length : Int) + 1)) := by rw [cell_of_row W3 _ 0 _ _ _ hrow3]; rfl
    have hf3 := frozen_of_row W3 (w.heap.size + 1) 0 _ _ hres3
    have hr3 : W3.cell? ⟨w.heap.size + 1, 0, none⟩ = some (.bool false) := by rw [cell_of_row W3 _ 0 _ _ _ hres3]; rfl
    obtain ⟨d0, d1, d2, d3, d4, d5⟩ := Row6.of hnx
    rw [hW3] at hc3 hf3 hr3 d0 d1 d2 d3 d4 d5
    have HW3 := Lib.hid hW3
    have Hres3 := Lib.hid hres3
    have Hrow3 := Lib.hid hrow3
    have Hbel3 := Lib.hid hbel3
    have Hkp3 := Lib.hid hkp3
    have Hx := Lib.hid hx
    have Hin := Lib.hid hin
    have Hle := Lib.hid hle
    have Hall := Lib.hid hall
    have HFx := Lib.hid (CallsIn.inRound l (HF.out (T.mk k' fl' n' s' ks' kids') _ W3 hbel3 hx))
    clear hrow hres hbel hpre hx hnx hk2 e hin hle hall hW3 hres3 hrow3 hbel3 hkp3 hwr
    by_cases h1 : p.length + 1 ≤ 300
    rotate_left
    · have g1 : decide ((300 : Int) < (p.length : Int) + 1) = true := decide_eq_true (by omega)
      have Hno := Lib.hid (show ¬ Ok t from fun ho => by have := (HOK.out.1 ho).1; have := Hle.out; omega)
      clear HFx h1 hd
      gi_wp2_with (refine ⟨trivial, ?_⟩)
      rw [← HW3.out]
      exact ⟨Hkp3.out.trans (kept_set _ _ (by simp)), by rw [heap_setCell_same _ _ 0 _ _ _ Hres3.out]; rfl, Hbel3.out.setCell (p := ⟨w.heap.size + 1, 0, none⟩) (by simp) _, Hno.out⟩
    have g1 : decide ((300 : Int) < (p.length : Int) + 1) = false := decide_eq_false (by omega)
    rcases hd with hd | hd
    rotate_left
    · have g2 : decide ((8 : Int) < (d : Nat)) = true := decide_eq_true (by omega)
      have Hno := Lib.hid (show ¬ Ok t from fun ho => hd ((HOK.out.1 ho).2 _ Hin.out).1)
      clear HFx h1 hd
      gi_wp2_with (refine ⟨trivial, ?_⟩)
      rw [← HW3.out]
      exact ⟨Hkp3.out.trans (kept_set _ _ (by simp)), by rw [heap_setCell_same _ _ 0 _ _ _ Hres3.out]; rfl, Hbel3.out.setCell (p := ⟨w.heap.size + 1, 0, none⟩) (by simp) _, Hno.out⟩
    have g2 : decide ((8 : Int) < (d : Nat)) = false := decide_eq_false (by omega)
    by_cases hn : Node (T.mk k' fl' n' s' ks' kids')
    rotate_left
    · rw [dec_no hn] at HFx
      have Hno := Lib.hid (show ¬ Ok t from fun ho => hn ((HOK.out.1 ho).2 _ Hin.out).2)
      clear h1 hd hn
      gi_wp2_with (refine ⟨trivial, ?_⟩; gi_at_call 36; rw [← HW3.out]; refine HFx.out.mono ?_; rintro e W4 ⟨rfl, hb4⟩; have hr4 := (hb4.block _ (heap_lt Hres3.out)).trans Hres3.out; have hf4 := frozen_of_row W4 (w.heap.size + 1) 0 _ _ hr4; have hc4 : W4.cell? ⟨w.heap.size + 1, 0, none⟩ = some (.bool false) := (by rw [cell_of_row W4 _ 0 _ _ _ hr4]; rfl))
      exact ⟨(Hkp3.out.trans (KeptBut.of_below hb4)).trans (kept_set _ _ (by simp)), by rw [heap_setCell_same _ _ 0 _ _ _ hr4]; rfl, (Hbel3.out.trans (hb4.mono Hbel3.out.size)).setCell (p := ⟨w.heap.size + 1, 0, none⟩) (by simp) _, Hno.out⟩
    · rw [dec_yes hn] at HFx
      have Hn := Lib.hid (show (p ++ [((T.mk k' fl' n' s' ks' kids'), d)]).length ≤ 300 ∧ ∀ x ∈ p ++ [((T.mk k' fl' n' s' ks' kids'), d)], x.2 ≤ 8 ∧ Node x.1 from ⟨by simpa using h1, fun x hx => by
        rcases List.mem_append.1 hx with hx | hx
        · exact Hall.out x hx
        · obtain rfl := List.mem_singleton.1 hx
          exact ⟨hd, hn⟩⟩)
      clear h1 hd hn
      gi_wp2_with (refine ⟨trivial, ?_⟩; gi_at_call 36; rw [← HW3.out]; refine HFx.out.mono ?_; rintro e W4 ⟨rfl, hb4⟩)
      exact ⟨Hkp3.out.trans (KeptBut.of_below hb4), by rw [hb4.block _ (heap_lt Hrow3.out), Hrow3.out]; simp, (hb4.block _ (heap_lt Hres3.out)).trans Hres3.out, Hbel3.out.trans (hb4.mono Hbel3.out.size), Hn.out⟩
  case done =>
    rintro D W hD ⟨hrow, hres, hbel, hok⟩ hK
    have hf := frozen_of_row W (w.heap.size + 1) 0 _ _ hres
    have hDn : D ≠ w.heap.size + 1 := by have := Hs3.out; omega
    have hr0 : W.cell? ⟨w.heap.size + 1, 0, none⟩ = some (.bool false) := by rw [cell_of_row W _ 0 _ _ _ hres]; rfl
    have hc : (W.setCell ⟨w.heap.size + 1, 0, none⟩ (.bool true)).cell? ⟨w.heap.size + 1, 0, none⟩ = some (.bool true) := by
      rw [cell_of_row _ _ 0 _ _ _ (heap_setCell_same W _ 0 _ _ (.bool true) hres)]; rfl
    have HK := Lib.hid (show (W.setCell ⟨w.heap.size + 1, 0, none⟩ (.bool true)).heap[D]? = _ from (Below.heap_setCell _ _ _ _ hDn).trans hK)
    have Hc := Lib.hid (show ∀ o, ((W.setCell ⟨w.heap.size + 1, 0, none⟩ (.bool true)).putObj D o).cell? ⟨w.heap.size + 1, 0, none⟩ = some (.bool true) from fun o => by
      rw [cell_of_row _ _ 0 _ _ _ ((World.putObj_heap_other (by omega)).trans (heap_setCell_same W _ 0 _ _ (.bool true) hres))]; rfl)
    have Hbel := Lib.hid (show Below w.heap.size w (W.setCell ⟨w.heap.size + 1, 0, none⟩ (.bool true)) from hbel.setCell (p := ⟨w.heap.size + 1, 0, none⟩) (by simp) _)
    have Hyes := Lib.hid (HOK.out.2 hok)
    clear hK hbel hrow hok hc
    gi_wp2
    refine ⟨by simp, .inl ⟨_, _, rfl, run_takeDeferred HK.out, ?_⟩⟩
    exact ⟨_, results_bool rfl _ _ _ _ rfl (Hc.out _), by rw [dec_yes Hyes.out], Hbel.out.trans (below_put _ _ (by have := Hs3.out; omega))⟩
  case stop =>
    rintro D p W hD _ ⟨hres, hbel, hno⟩ hK
    have HK := Lib.hid hK
    have hDn : D ≠ w.heap.size + 1 := by have := Hs3.out; omega
    have Hc := Lib.hid (show ∀ o, (W.putObj D o).cell? ⟨w.heap.size + 1, 0, none⟩ = some (.bool false) from fun o => by
      rw [cell_of_row _ _ 0 _ _ _ ((World.putObj_heap_other (by omega)).trans hres)]; rfl)
    have Hbel := Lib.hid hbel
    have Hno := Lib.hid hno
    clear hK hbel hno hres
    gi_wp2
    refine ⟨by simp, .inl ⟨_, _, rfl, run_takeDeferred HK.out, ?_⟩⟩
    exact ⟨_, results_bool rfl _ _ _ _ rfl (Hc.out _), by rw [dec_no Hno.out], Hbel.out.trans (below_put _ _ (by have := Hs3.out; omega))⟩
end Go.Proofs.YtbfkkaafkinpmaaGreatDoor.tree
