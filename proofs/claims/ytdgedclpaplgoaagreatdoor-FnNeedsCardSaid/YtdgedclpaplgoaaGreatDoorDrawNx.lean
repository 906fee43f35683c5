/- Drawn requirements, right or not: l15AnyNeed. -/
import Derived.Test.YtdgedclpaplgoaaGreatDoorGA11
import Derived.Test.YtdgedclpaplgoaaGreatDoorGA19
import Derived.Deep.RegionHeld3
import Derived.Deep.RegionLaw
namespace Go.Proofs.YtdgedclpaplgoaaGreatDoor.draw
open Go.ChangeShapes Go.WideShapes Go.ChangeAt Go.RowKit ty lab need dedup
set_option linter.unusedVariables false

/-- A requirement under way in a box of its own, beside the result's box and the cursor. -/
structure NdV (w : World) (c : Nat) (A : Option Addr) (len cap : Nat) (z : Nat → Int) (b1 : Nat) (k : ByteArray) (op : Int) (vs : List ByteArray) (v : Value) (F : List Nat) (a : World) : Prop where
  cur : Cur a c A len cap z
  grown : w.grownBy a (some c)
  zero : a.heap[w.heap.size]? = some (.cells #[.string ⟨#[]⟩, .int .i64 0, .slice none 0 0] 31 (0, 0))
  mine : a.heap[b1]? = some (.cells #[.string k, .int .i64 op, v] 31 (0, 0))
  own : Own a (w.heap.size + 1) 2 v (.sl 1 vs.length (vs.flatMap Str.row)) F
  nd : F.Nodup
  out : ∀ y ∈ F, y ≠ b1
section
variable {w a b : World} {c : Nat} {A : Option Addr} {len cap : Nat} {z : Nat → Int} {b1 : Nat} {k : ByteArray} {op : Int} {vs : List ByteArray} {v : Value} {F : List Nat}
theorem NdV.turn (h : NdV w c A len cap z b1 k op vs v F a) (hcw : c < w.heap.size) (hb1 : w.heap.size < b1) (hc : Cur b c A len cap z) (hg : a.grownBy b (some c)) : NdV w c A len cap z b1 k op vs v F b :=
  ⟨hc, grown_trans h.grown hg, heap_cur h.zero (by omega) hg, heap_cur h.mine (by omega) hg, own_curN h.own (by omega) hg, h.nd, h.out⟩
theorem NdV.below (h : NdV w c A len cap z b1 k op vs v F a) (hcw : c < w.heap.size) (hb : Below a.heap.size a b) : NdV w c A len cap z b1 k op vs v F b :=
  ⟨h.cur.below hb h.cur.lt, grown_below h.grown (hb.mono h.grown.size), heap_kept hb (heap_lt h.zero) h.zero, heap_kept hb (heap_lt h.mine) h.mine, h.own.below hb, h.nd, h.out⟩
theorem NdV.put (h : NdV w c A len cap z b1 k op vs v F a) (hcw : c < w.heap.size) (hb1 : w.heap.size < b1) (i : Nat) (u : Value) {k' : ByteArray} {op' : Int} (he : (#[.string k, .int .i64 op, v] : Array Value).setIfInBounds i u = #[.string k', .int .i64 op', v]) : NdV w c A len cap z b1 k' op' vs v F (a.setCell ⟨b1, i, none⟩ u) := by
  have hb : Below b1 a (a.setCell ⟨b1, i, none⟩ u) := (Below.refl b1 a).setCell (by show b1 ≤ b1; exact Nat.le_refl _) _
  refine ⟨h.cur.below hb (by omega), grown_below h.grown (hb.mono (by omega)), (Below.heap_setCell _ _ _ _ (by show w.heap.size ≠ b1; omega)).trans h.zero, ?_, h.own.kept fun x hx => Below.heap_setCell _ _ _ _ (h.out x hx), h.nd, h.out⟩
  rw [← he]
  exact heap_setCell_same _ _ _ _ _ _ h.mine
theorem NdV.cell2 (h : NdV w c A len cap z b1 k op vs v F a) : a.cell? ⟨b1, 2, none⟩ = some v := by rw [cell_of_row _ _ 2 _ _ _ h.mine]; rfl
theorem NdV.alloc (h : NdV w c A len cap z b1 k op vs v F a) (hcw : c < w.heap.size) (o : Obj) : NdV w c A len cap z b1 k op vs v F (a.alloc o) := h.below hcw ((Below.refl _ _).alloc (Nat.le_refl _) o)
theorem NdV.row (h : NdV w c A len cap z b1 k op vs v F a) : ∃ e, a.ownsRow (w.heap.size + 1) e 1 v vs.length (scells vs) := by
  have h0 := h.own
  rw [Str.flat] at h0
  obtain ⟨e, hr, _, _⟩ := own_strs_row h0
  exact ⟨e, hr⟩
theorem NdV.done {q : Nat} (h : NdV w c A len cap z b1 k op vs v F a) (hcw : c < w.heap.size) (ht : TinyN q ⟨k, op, vs⟩) :
    GotN q c A len cap z w (.returned (.agg #[.string k, .int .i64 op, v])) (a.setRow w.heap.size #[.string k, .int .i64 op, v]) := by
  have o2 := Own.setRow_low h.own (c := #[.string k, .int .i64 op, v]) (show w.heap.size < w.heap.size + 1 by omega)
  obtain ⟨G, hoG, hnG, _⟩ := Need.owned (x := ⟨k, op, vs⟩) (f := 1) ht.wf (o2.lower (B' := w.heap.size) (by omega)) h.nd
  have hb2 : Below w.heap.size a (a.setRow w.heap.size #[.string k, .int .i64 op, v]) := setRow_below (Below.refl _ _) (Nat.le_refl _) _
  exact ⟨_, _, G, ht, rfl, hoG, hnG, h.cur.below hb2 hcw, grown_below h.grown hb2⟩
theorem NdV.grow {X w7 : World} {e7 : TypeId} {v7 : Value} {t : ByteArray} (h : NdV w c A len cap z b1 k op vs v F X) (hcw : c < w.heap.size) (hb1 : w.heap.size < b1) (hs : ∀ s ∈ vs ++ [t], s.size ≤ 5)
    (hown : w7.ownsRow (w.heap.size + 1) e7 1 v7 (vs.length + 1) (scells vs ++ [.string t])) (hg : X.grownBy w7 v.ownBlock) (hat : v7.ownBlock = v.ownBlock ∨ v7.ownBlock = some X.heap.size) :
    (∃ F7, NdV w c A len cap z b1 k op (vs ++ [t]) v7 F7 (w7.setCell ⟨b1, 2, none⟩ v7)) ∧ w7.heap[b1]? = some (.cells #[.string k, .int .i64 op, v] 31 (0, 0)) := by
  have hv : ∀ q, v.ownBlock = some q → w.heap.size + 1 ≤ q ∧ q ≠ b1 := fun q hq => by
    have h0 := h.own
    rw [Str.flat] at h0
    obtain ⟨e, hr, _, hF⟩ := own_strs_row h0
    refine ⟨(hr.lt q hq).1, ?_⟩
    rcases hF with ⟨h1, _⟩ | ⟨g, h1, h2⟩
    · rw [h1] at hq; cases hq
    · rw [h1] at hq
      injection hq with hq
      subst hq
      exact h.out g (by rw [h2]; simp)
  have hbx : b1 < X.heap.size := heap_lt h.mine
  have hb7 : Below (w.heap.size + 1) X w7 := (Below.refl _ _).grown hg (by have := h.grown.size; omega) (fun q hq => (hv q hq).1)
  have hm7 : w7.heap[b1]? = some (.cells #[.string k, .int .i64 op, v] 31 (0, 0)) := (hg.block b1 hbx (fun e => (hv b1 e.symm).2 rfl)).trans h.mine
  have hz : ∀ s ∈ vs ++ [t], s.size ≤ maxLen := fun s hs' => by have := hs s hs'; unfold maxLen; omega
  rw [scells_snoc] at hown
  have hl : (vs ++ [t]).length = vs.length + 1 := by simp
  have hF7 : ∃ F7 : List Nat, (v7.ownBlock = none ∧ F7 = [] ∨ ∃ g, v7.ownBlock = some g ∧ F7 = [g]) := by
    cases hv7 : v7.ownBlock with
    | none => exact ⟨[], .inl ⟨rfl, rfl⟩⟩
    | some g => exact ⟨[g], .inr ⟨g, rfl, rfl⟩⟩
  obtain ⟨F7, hF7⟩ := hF7
  have ho7 := own_strs_back (f := 0) hown hl.symm hz hF7
  rw [← Str.flat, ← hl] at ho7
  have hout : ∀ y ∈ F7, y ≠ b1 := fun y hy => by
    rcases hF7 with ⟨_, rfl⟩ | ⟨g, hg7, rfl⟩
    · cases hy
    · rw [List.mem_singleton] at hy
      subst hy
      rcases hat with e | e
      · exact (hv y (e ▸ hg7)).2
      · rw [e] at hg7
        injection hg7 with hg7
        omega
  have hb8 : Below (w.heap.size + 1) X (w7.setCell ⟨b1, 2, none⟩ v7) := hb7.setCell (by show w.heap.size + 1 ≤ b1; omega) _
  refine ⟨⟨F7, h.cur.below hb8 (by omega), grown_below h.grown (hb8.mono (by omega)), (hb8.block _ (by omega)).trans h.zero, heap_setCell_same _ _ _ _ _ _ hm7, ho7.kept fun x hx => Below.heap_setCell _ _ _ _ (hout x hx), ?_, hout⟩, hm7⟩
  rcases hF7 with ⟨_, rfl⟩ | ⟨g, _, rfl⟩
  · exact List.nodup_nil
  · simp
end
/-- What a requirement's cells are, in memory of the call's own. -/
theorem nd_vals {w : World} {B f : Nat} {us : List Value} {x : Need} {F : List Nat} (h : OwnS w B f us x.row F) : ∃ v, us = [.string x.key, .int .i64 x.op, v] ∧ Own w B f v (.sl 1 x.values.length (x.values.flatMap Str.row)) F := by
  obtain ⟨A2, c2, hus, hwf, _⟩ := Need.opened h.lies
  obtain ⟨v0, _, G0, _, e0, hF, o0, h⟩ := h.uncons
  obtain ⟨v1, _, G1, _, rfl, rfl, o1, h⟩ := h.uncons
  obtain ⟨v2, r, G2, F', rfl, rfl, o2, h⟩ := h.uncons
  obtain ⟨rfl, rfl⟩ := h.unnil
  have hG0 : G0 = [] := by cases f with
    | zero => exact o0.elim
    | succ f => exact o0.2
  have hG1 : G1 = [] := by cases f with
    | zero => exact o1.elim
    | succ f => exact o1.2
  rw [hus] at e0
  injection e0 with e1 e2
  injection e2 with e2 e3
  injection e3 with e3
  subst e3
  refine ⟨_, hus, ?_⟩
  rw [hF, hG0, hG1]
  simpa using o2
/-- An append onto a row of whatever type as one step of a region that draws. -/
theorem step_append_anyE {P : Program} {ops : Array Oper} {o : Oper} {a : Act} {w : World} {K : Act → World → Prop} {Q : Exit → Act → World → Prop} {E : Prop}
    (hg : o.guard = none) (s x : Operand) (t : TypeId) (hop : o.op = Op.call { callee := Callee.builtin Builtin.append, args := #[s, x], argTypes := #[t, t] })
    (B : Nat) (e e0 : TypeId) (i : TypeInfo) (z : Value) (size bytes : Nat) (h1 : P.underlying t = some (.slice e)) (h2 : P.info? e = some i) (h3 : i.zero = some z) (h4 : i.size = size) (h5 : i.bytes = bytes) (h6 : z.cells.size = size) (h7 : 0 < size)
    (v : Value) (n : Nat) (xs : List Value) (hs : a.eval s = v) (hown : w.ownsRow B e0 size v n xs)
    (ad : Addr) (m c : Nat) (news : List Value) (hx : a.eval x = .slice (some ad) m c) (hn : news.length = m * size) (hc : ∀ j u, news[j]? = some u → w.cell? (ad.add j) = some u) (h1c : ∀ u ∈ news, u.oneCell' = true)
    (b1 : n + m ≤ maxLen) (b2 : (n + m) * bytes ≤ 140737488355328) (b3 : B ≤ w.heap.size)
    (hK : ∀ v' w' e1, w'.ownsRow B e1 size v' (n + m) (xs ++ news) → w.grownBy w' v.ownBlock → (v'.ownBlock = v.ownBlock ∨ v'.ownBlock = some w.heap.size) → K (a.put o.dst v') w') :
    if Region.wanted o (yielded ops a.tmps) = true then Oper.wp P o a w K Q else E := by
  have hw : Region.wanted o (yielded ops a.tmps) = true := by simp [Region.wanted, hg]
  rw [if_pos hw]
  obtain ⟨v', w', e1, hrun, r1, r2, r3⟩ := run_append_anyE (P := P) w B t o.type e e0 i z size bytes h1 h2 h3 h4 h5 h6 h7 v n xs hown ad m c news hn hc h1c b1 b2 b3
  unfold Oper.wp
  simp [execOp, hop, resolve, invoke, builtin, hs, hx, hrun, Result.andThen]
  exact hK v' w' e1 r1 r2 r3
theorem snoc_le {n : Nat} {vs : List ByteArray} {t : ByteArray} (h : ∀ s ∈ vs, s.size ≤ n) (h2 : t.size ≤ n) : ∀ s ∈ vs ++ [t], s.size ≤ n := fun s hs => by
  rcases List.mem_append.1 hs with hs | hs
  · exact h s hs
  · rw [List.mem_singleton] at hs; subst hs; exact h2
def pickV : List ByteArray := [⟨#[97]⟩, ⟨#[122, 122]⟩, ⟨#[45]⟩, ⟨#[]⟩]
theorem pickV_size : ∀ x ∈ pickV, x.size ≤ 5 := by decide
def pickK : List ByteArray := [⟨#[]⟩, ⟨#[45]⟩]
theorem pickK_size : ∀ x ∈ pickK, x.size ≤ 10 := by decide
set_option maxRecDepth 1000000 in
set_option maxHeartbeats 8000000 in
theorem anyneed_any (c : Nat) (A : Option Addr) (len cap : Nat) (z : Nat → Int) (w : World) (hc : Cur w c A len cap z) :
    Calls Tryz.prog 32 #[.pointer (some ⟨c, 0, none⟩)] w (GotN 4 c A len cap z w) := by
  obtain ⟨i1, hi1, hy0, hy1, hy2⟩ := info_parts TryzinfoStrV
  have hclt := hc.lt
  obtain ⟨W, hW⟩ : ∃ W, W = w.alloc (.cells #[.string ⟨#[]⟩, .int .i64 0, .slice none 0 0] 31) := ⟨_, rfl⟩
  have h0 : W.heap[w.heap.size]? = some (.cells #[.string ⟨#[]⟩, .int .i64 0, .slice none 0 0] 31 (0, 0)) := by rw [hW]; exact heap_alloc_new w _
  have hWs : W.heap.size = w.heap.size + 1 := by rw [hW]; simp
  have HN := Lib.hid (need_any c A len cap z W (by rw [hW]; exact cur_alloc hc _))
  have HgW := Lib.hid (show w.grownBy W (some c) by rw [hW]; exact grown_alloc _ _ _)
  have H0 := Lib.hid h0
  have HW := Lib.hid hW
  have HWs := Lib.hid hWs
  clear hc h0 hW hWs
  go_enter Tryz.func32, Tryz.ntmps32
  go_wp2_with fail
  rw [← HW.out]
  go_wp2_with fail
  refine HN.out.mono ?_
  rintro e w1 ⟨⟨k, op, vs⟩, us, F, hx, rfl, hoG, hnG, hc1, hg1⟩
  obtain ⟨v, rfl, hov⟩ := nd_vals hoG
  simp only at hov
  rw [HWs.out] at hov
  obtain ⟨A2, c2, rfl, _⟩ := Str.opened hov.lies
  have h01 := heap_cur H0.out (by omega) hg1
  have hb1 : w.heap.size < w1.heap.size := heap_lt h01
  obtain ⟨X, hX⟩ : ∃ X, X = w1.alloc (.cells #[.string k, .int .i64 op, .slice A2 vs.length c2] 31) := ⟨_, rfl⟩
  have hbX : Below w1.heap.size w1 X := by rw [hX]; exact (Below.refl _ _).alloc (Nat.le_refl _) _
  have SX := Lib.hid (show NdV w c A len cap z w1.heap.size k op vs (.slice A2 vs.length c2) F X from
    ⟨hc1.below hbX hc1.lt, grown_below (grown_trans HgW.out hg1) (hbX.mono (Nat.le_of_lt hb1)), heap_kept hbX hb1 h01, by rw [hX]; exact heap_alloc_new w1 _, hov.below hbX, hnG, fun y hy => by have := (hov.range y hy).2; omega⟩)
  have HB := Lib.hid (below_any c A len cap z 10 X SX.out.cur (by decide) (by decide))
  have HX := Lib.hid hX
  have Hx := Lib.hid hx
  clear HN HgW H0 HW HWs hx hoG hov hnG hc1 hg1 h01 hX hbX
  go_wp2_with fail
  rw [← HX.out]
  go_wp2_with fail
  refine HB.out.mono ?_
  rintro e w2 ⟨x, hx, rfl, hc2, hg2⟩
  have S2 := Lib.hid (SX.out.turn hclt hb1 hc2 hg2)
  clear HB SX hc2 hg2 HX
  by_cases h0 : x = 0
  · subst h0
    have HB := Lib.hid (below_any c A len cap z 7 w2 S2.out.cur (by decide) (by decide))
    clear hx
    go_wp2_with fail
    refine HB.out.mono ?_
    rintro e w3 ⟨y, hy, rfl, hc3, hg3⟩
    have S3 := Lib.hid (S2.out.turn hclt hb1 hc3 hg3)
    have hwy : IntKind.i64.wrap (y - 1) = y - 1 := IntWalk.i64_in _ (by omega)
    obtain ⟨op4, hop4⟩ : ∃ op4, y - 1 = op4 := ⟨_, rfl⟩
    rw [hop4] at hwy
    have Ht := Lib.hid (show TinyN 4 ⟨k, op4, vs⟩ from ⟨Hx.out.key, by simp only; omega, by simp only; omega, Nat.le_trans Hx.out.n (by decide), Hx.out.vs⟩)
    have p1 : w3.cell? ⟨w1.heap.size, 1, none⟩ = some (.int .i64 op) := by rw [cell_of_row _ _ 1 _ _ _ S3.out.mine]; rfl
    have f1 := frozen_of_row w3 _ 1 _ _ S3.out.mine
    have S4 := Lib.hid (S3.out.put hclt hb1 1 (.int .i64 op4) (k' := k) (op' := op4) rfl)
    clear HB S2 S3 hc3 hg3 hy Hx
    generalize hz : w3.setCell ⟨w1.heap.size, 1, none⟩ (.int .i64 op4) = z4 at *
    have h52 := S4.out.mine
    have h51 := S4.out.zero
    have H51 := Lib.hid h51
    have HR := Lib.hid (S4.out.done hclt (q := 4) Ht.out)
    clear S4
    go_wp2_with (first | (refine wpList_load_row rfl 31 _ rfl w1.heap.size rfl 31 #[.string k, .int .i64 op4, .slice A2 vs.length c2] (0, 0) _ h52 Tryz.underlying31 rfl sizeNeed ?_) | (refine wpList_store_row rfl 31 _ _ rfl w.heap.size #[.string k, .int .i64 op4, .slice A2 vs.length c2] rfl rfl 31 _ h51 sizeNeed rfl (by simp [Value.oneCell']) ?_) | fail)
    refine bodyPost_ret (v := .agg #[.string k, .int .i64 op4, .slice A2 vs.length c2]) ?_ rfl HR.out
    exact results_cell_row rfl _ _ w.heap.size _ _ (0, 0) _ rfl (setRow_at H51.out) Tryz.underlying31 rfl sizeNeed
  by_cases h1 : x = 1
  · subst h1
    clear hx h0
    have p2 : w2.cell? ⟨w1.heap.size, 2, none⟩ = some (.slice A2 vs.length c2) := by rw [cell_of_row _ _ 2 _ _ _ S2.out.mine]; rfl
    go_wp2_with fail
    have hvn : vs.length ≤ 3 := Hx.out.n
    have hvs := Lib.hid (show ∀ s ∈ vs, s.size ≤ 5 from Hx.out.vs)
    have HP := Lib.hid (pickS_any c A len cap z w2.heap.size 4 (.slice (some ⟨w2.heap.size, 0, none⟩) 4 4) pickV ((w2.alloc (.cells (scells pickV).toArray 9)).drew) ((cur_alloc S2.out.cur (.cells (scells pickV).toArray 9)).below (Below.refl (c + 1) _).drew (Nat.lt_succ_self c)) (by decide) (by decide) rfl S2.out.cur.lt (own_below' (World.ownsRow_lit w2 (scells pickV).toArray 4 (Nat.le_refl _) (by simp [maxLen]) rfl) (Below.refl _ _).drew))
    have S2d := Lib.hid ((S2.out.alloc hclt (.cells (scells pickV).toArray 9)).below hclt (Below.refl _ _).drew)
    have p2a : ∀ o, (w2.alloc o).cell? ⟨w1.heap.size, 2, none⟩ = some (.slice A2 vs.length c2) := fun o => (S2.out.alloc hclt o).cell2
    go_region_law (first | (go_simp; go_at_call 72; refine HP.out.mono ?_; rintro e w5 ⟨t, ht, rfl, hc5, hg5⟩; have S5 := Lib.hid (S2d.out.turn hclt hb1 hc5 hg5); have p5 := S5.out.cell2; have p5a : ∀ o, (w5.alloc o).cell? ⟨w1.heap.size, 2, none⟩ = some (.slice A2 vs.length c2) := fun o => (S5.out.alloc hclt o).cell2; have HT := Lib.hid (pickV_size t ht); clear hc5 hg5 ht) | (obtain ⟨e9, hrow⟩ := (S5.out.alloc hclt (.cells #[.string t] 9)).row; refine step_append_anyE rfl (.tmp 17) (.tmp 21) 29 rfl (w.heap.size + 1) 9 e9 i1 _ 1 16 Tryz.underlying29 hi1 hy0 hy1 hy2 rfl (by decide) _ vs.length (scells vs) rfl hrow ⟨w5.heap.size, 0, none⟩ 1 1 [.string t] rfl rfl (lit_cells w5 #[.string t] _) (by intro u hu; simp at hu; subst hu; rfl) (by unfold maxLen; omega) (by omega) (by have := S5.out.grown.size; simp; omega) ?_; intro v7 w7 e7 o7 g7 a7; obtain ⟨⟨F7, S7⟩, hm7⟩ := (S5.out.alloc hclt (.cells #[.string t] 9)).grow hclt hb1 (t := t) (snoc_le hvs.out HT.out) o7 g7 a7; have p7 : w7.cell? ⟨w1.heap.size, 2, none⟩ = some (.slice A2 vs.length c2) := (cell_of_row w7 w1.heap.size 2 _ _ (0, 0) hm7).trans rfl; have f7 := frozen_of_row w7 _ 2 _ _ hm7; obtain ⟨A7, c7, rfl⟩ := own_is_slice o7; have H7 := Lib.hid S7; have HT2 := Lib.hid (show TinyN 4 ⟨k, op, vs ++ [t]⟩ from ⟨Hx.out.key, Hx.out.lo, Hx.out.hi, (by simp only [List.length_append, List.length_singleton]; omega), snoc_le hvs.out HT.out⟩); clear hrow o7 g7 a7 S7 hm7))
    all_goals
      generalize hz : w7.setCell ⟨w1.heap.size, 2, none⟩ (.slice A7 (vs.length + 1) c7) = z7 at *
      have h52 := H7.out.mine
      have h51 := H7.out.zero
      have H51 := Lib.hid h51
      have HR := Lib.hid (H7.out.done hclt (q := 4) HT2.out)
      clear H7 S5 S2 S2d HP HT2 HT hz
      go_wp2_with (first | (refine wpList_load_row rfl 31 _ rfl w1.heap.size rfl 31 #[.string k, .int .i64 op, .slice A7 (vs.length + 1) c7] (0, 0) _ h52 Tryz.underlying31 rfl sizeNeed ?_) | (refine wpList_store_row rfl 31 _ _ rfl w.heap.size #[.string k, .int .i64 op, .slice A7 (vs.length + 1) c7] rfl rfl 31 _ h51 sizeNeed rfl (by simp [Value.oneCell']) ?_) | fail)
      refine bodyPost_ret (v := .agg #[.string k, .int .i64 op, .slice A7 (vs.length + 1) c7]) ?_ rfl HR.out
      exact results_cell_row rfl _ _ w.heap.size _ _ (0, 0) _ rfl (setRow_at H51.out) Tryz.underlying31 rfl sizeNeed
  have e0 : (x == 0) = false := beq_eq_false_iff_ne.2 h0
  have e1 : (x == 1) = false := beq_eq_false_iff_ne.2 h1
  by_cases h2 : x = 2
  · subst h2
    have HP := Lib.hid (pickS_any c A len cap z w2.heap.size 2 (.slice (some ⟨w2.heap.size, 0, none⟩) 2 2) pickK _ (cur_alloc S2.out.cur (.cells (scells pickK).toArray 9)) (by decide) (by decide) rfl S2.out.cur.lt (World.ownsRow_lit w2 (scells pickK).toArray 2 (Nat.le_refl _) (by simp [maxLen]) rfl))
    have S2' := Lib.hid (S2.out.below hclt ((Below.refl _ _).alloc (Nat.le_refl _) (.cells (scells pickK).toArray 9)))
    clear hx h0 h1 e0 e1 S2
    go_wp2_with fail
    refine HP.out.mono ?_
    rintro e w3 ⟨t, ht, rfl, hc3, hg3⟩
    have S3 := Lib.hid (S2'.out.turn hclt hb1 hc3 hg3)
    have Ht := Lib.hid (show TinyN 4 ⟨t, op, vs⟩ from ⟨pickK_size t ht, Hx.out.lo, Hx.out.hi, Nat.le_trans Hx.out.n (by decide), Hx.out.vs⟩)
    have p1 : w3.cell? ⟨w1.heap.size, 0, none⟩ = some (.string k) := by rw [cell_of_row _ _ 0 _ _ _ S3.out.mine]; rfl
    have f1 := frozen_of_row w3 _ 0 _ _ S3.out.mine
    have S4 := Lib.hid (S3.out.put hclt hb1 0 (.string t) (k' := t) (op' := op) rfl)
    clear HP S2' S3 hc3 hg3 ht Hx
    generalize hz : w3.setCell ⟨w1.heap.size, 0, none⟩ (.string t) = z4 at *
    have h52 := S4.out.mine
    have h51 := S4.out.zero
    have H51 := Lib.hid h51
    have HR := Lib.hid (S4.out.done hclt (q := 4) Ht.out)
    clear S4
    go_wp2_with (first | (refine wpList_load_row rfl 31 _ rfl w1.heap.size rfl 31 #[.string t, .int .i64 op, .slice A2 vs.length c2] (0, 0) _ h52 Tryz.underlying31 rfl sizeNeed ?_) | (refine wpList_store_row rfl 31 _ _ rfl w.heap.size #[.string t, .int .i64 op, .slice A2 vs.length c2] rfl rfl 31 _ h51 sizeNeed rfl (by simp [Value.oneCell']) ?_) | fail)
    refine bodyPost_ret (v := .agg #[.string t, .int .i64 op, .slice A2 vs.length c2]) ?_ rfl HR.out
    exact results_cell_row rfl _ _ w.heap.size _ _ (0, 0) _ rfl (setRow_at H51.out) Tryz.underlying31 rfl sizeNeed
  have e2 : (x == 2) = false := beq_eq_false_iff_ne.2 h2
  have Ht := Lib.hid (show TinyN 4 ⟨k, op, vs⟩ from ⟨Hx.out.key, Hx.out.lo, Hx.out.hi, Nat.le_trans Hx.out.n (by decide), Hx.out.vs⟩)
  clear hx h0 h1 h2 Hx
  have h52 := S2.out.mine
  have h51 := S2.out.zero
  have H51 := Lib.hid h51
  have HR := Lib.hid (S2.out.done hclt (q := 4) Ht.out)
  clear S2
  go_wp2_with (first | (refine wpList_load_row rfl 31 _ rfl w1.heap.size rfl 31 #[.string k, .int .i64 op, .slice A2 vs.length c2] (0, 0) _ h52 Tryz.underlying31 rfl sizeNeed ?_) | (refine wpList_store_row rfl 31 _ _ rfl w.heap.size #[.string k, .int .i64 op, .slice A2 vs.length c2] rfl rfl 31 _ h51 sizeNeed rfl (by simp [Value.oneCell']) ?_) | fail)
  refine bodyPost_ret (v := .agg #[.string k, .int .i64 op, .slice A2 vs.length c2]) ?_ rfl HR.out
  exact results_cell_row rfl _ _ w.heap.size _ _ (0, 0) _ rfl (setRow_at H51.out) Tryz.underlying31 rfl sizeNeed
end Go.Proofs.YtdgedclpaplgoaaGreatDoor.draw
