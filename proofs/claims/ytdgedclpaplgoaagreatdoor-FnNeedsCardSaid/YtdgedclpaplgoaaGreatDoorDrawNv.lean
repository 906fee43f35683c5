/- spec.DrawSortNeeds. -/
import Derived.Test.YtdgedclpaplgoaaGreatDoorGA11
import Derived.Test.YtdgedclpaplgoaaGreatDoorDrawNx
import Derived.Test.YtdgedclpaplgoaaGreatDoorGA18
import Derived.Test.YtdgedclpaplgoaaGreatDoorHeldT
import Derived.Deep.RegionHeld3
import Derived.Deep.Cut
import Derived.Deep.CutRange
import Derived.Deep.RegionLaw
namespace Go.Proofs.YtdgedclpaplgoaaGreatDoor.draw
open Go.ChangeShapes Go.WideShapes Go.ChangeAt Go.RowKit ty lab need dedup
set_option linter.unusedVariables false

/-- A drawn requirement in a box of its own. -/
structure BoxN (w : World) (c : Nat) (A : Option Addr) (len cap : Nat) (z : Nat → Int) (b1 : Nat) (y : Need) (v : Value) (G : List Nat) (a : World) : Prop where
  cur : Cur a c A len cap z
  grown : w.grownBy a (some c)
  own : OwnS a w.heap.size 2 [.string y.key, .int .i64 y.op, v] y.row G
  nd : G.Nodup
  box : a.heap[b1]? = some (.cells #[.string y.key, .int .i64 y.op, v] 31 (0, 0))
theorem BoxN.turn {w a b : World} {c : Nat} {A : Option Addr} {len cap : Nat} {z : Nat → Int} {b1 : Nat} {y : Need} {v : Value} {G : List Nat} (h : BoxN w c A len cap z b1 y v G a) (hcw : c < w.heap.size) (hb : w.heap.size ≤ b1) (hc : Cur b c A len cap z) (hg : a.grownBy b (some c)) : BoxN w c A len cap z b1 y v G b :=
  ⟨hc, grown_trans h.grown hg, ownS_cur h.own hcw hg, h.nd, heap_cur h.box (by omega) hg⟩
theorem own_hasA (w : World) (B : Nat) {q : Nat} {k : ByteArray} (ht : TinyN q ⟨k, 3, []⟩) : OwnS w B 2 [.string k, .int .i64 3, .slice none 0 0] (Need.row ⟨k, 3, []⟩) [] := by
  obtain ⟨F, ho, _, hs⟩ := Need.owned (x := ⟨k, 3, []⟩) (f := 1) (w := w) (B := B) ht.wf (own_nil w B 1 1) List.nodup_nil
  have : F = [] := by
    cases F with
    | nil => rfl
    | cons a r => have := hs a List.mem_cons_self; cases this
  rw [this] at ho
  exact ho
theorem rot_tiny {k : ByteArray} {op : Int} {vs : List ByteArray} {s0 : ByteArray} (h : TinyN 4 ⟨k, op, vs⟩) (hn : 2 ≤ vs.length) (hs : s0 ∈ vs) : TinyN 5 ⟨k, op, vs.drop 1 ++ [s0, s0]⟩ :=
  ⟨h.key, h.lo, h.hi, by have h1 : vs.length ≤ 4 := h.n; simp; omega, fun s hs' => by
    rcases List.mem_append.1 hs' with h1 | h1
    · exact h.vs s (List.mem_of_mem_drop h1)
    · simp at h1; subst h1; exact h.vs s hs⟩
theorem rot_box {w w4 w6 : World} {c : Nat} {A : Option Addr} {len cap : Nat} {z : Nat → Int} {b1 : Nat} {k : ByteArray} {op : Int} {vs : List ByteArray} {v v6 : Value} {G : List Nat} {s0 : ByteArray} (Q : BoxN w c A len cap z b1 ⟨k, op, vs⟩ v G w4) (hcw : c < w.heap.size) (hb1 : w.heap.size ≤ b1) (hy : TinyN 4 ⟨k, op, vs⟩) (hn : 2 ≤ vs.length) (hs : s0 ∈ vs)
    (hown : w6.ownsRow w4.heap.size 9 1 v6 (vs.length - 1 + 2) (scells (vs.drop 1 ++ [s0, s0]))) (hb6 : Below w4.heap.size w4 w6) : ∃ G8, BoxN w c A len cap z b1 ⟨k, op, vs.drop 1 ++ [s0, s0]⟩ v6 G8 (w6.setCell ⟨b1, 2, none⟩ v6) := by
  have hlt : b1 < w4.heap.size := heap_lt Q.box
  have ht := rot_tiny hy hn hs
  have hl : (vs.drop 1 ++ [s0, s0]).length = vs.length - 1 + 2 := by simp
  rw [← hl] at hown
  obtain ⟨F, ho, hnF, _⟩ := (ownRow_strs (f := 0) hown (fun x hx => by have := ht.vs x hx; unfold maxLen; omega)).own
  have ho2 := Own.setCell_low (o := 2) (u := v6) ho hlt
  rw [← Str.flat] at ho2
  have hs4 := Q.grown.size
  obtain ⟨G8, hoG, hnG, _⟩ := Need.owned (x := ⟨k, op, vs.drop 1 ++ [s0, s0]⟩) (f := 1) ht.wf (ho2.lower hs4) hnF
  have hz : Below b1 w6 (w6.setCell ⟨b1, 2, none⟩ v6) := (Below.refl b1 w6).setCell (by show b1 ≤ b1; exact Nat.le_refl _) _
  have h46 : Below w.heap.size w4 (w6.setCell ⟨b1, 2, none⟩ v6) := (hb6.mono hs4).trans (hz.mono hb1)
  have hbox6 := heap_kept hb6 hlt Q.box
  exact ⟨G8, Q.cur.below h46 hcw, grown_below Q.grown h46, hoG, hnG, heap_setCell_same _ _ _ _ _ _ hbox6⟩
def lenV : Value → Nat
  | .slice _ n _ => n
  | _ => 0
theorem tiny_a : TinyN 5 ⟨⟨#[97]⟩, 3, []⟩ := ⟨by decide, by decide, by decide, by simp, fun s hs => by cases hs⟩
set_option maxRecDepth 1000000 in
set_option maxHeartbeats 16000000 in
theorem sortneeds_any (A : Option Addr) (len cap : Nat) (zs : List Int) (w : World) (hr : IsRow .u8 w A len cap zs) (hlen : len ≤ 1048576) :
    Calls Tryz.prog 7 #[.slice A len cap] w fun e w' => NeedsDrawn w e w' := by
  obtain ⟨i0, hi, hz0, hz1, hz2⟩ := info_parts TryzinfoNeed
  obtain ⟨i1, hi1, hy0, hy1, hy2⟩ := info_parts TryzinfoStrV
  have HN := Lib.hid (new_any A len cap zs w hr hlen)
  clear hr
  go_enter Tryz.func7, Tryz.ntmps7
  go_wp2_with fail
  refine HN.out.mono ?_
  clear HN
  rintro e w1 ⟨c, rfl, hcw, hc, hb1⟩
  generalize (fun j => zs.getD j 0) = z at hc
  have hclt := hc.lt
  have hown0 : (w1.alloc (.cells #[] 31)).ownsRow w1.heap.size 31 3 (.slice (some ⟨w1.heap.size, 0, none⟩) 0 0) 0 [] := World.ownsRow_lit w1 #[] 0 (Nat.le_refl _) (by simp [maxLen]) rfl
  obtain ⟨F0, ho0, hn0, _⟩ := (OwnRow.of_lit (f := 1) hown0).own
  have S0 := Lib.hid (show StN w1 c A len cap z (.slice (some ⟨w1.heap.size, 0, none⟩) 0 0) [] 1 F0 (w1.alloc (.cells #[] 31)) from ⟨cur_alloc hc _, grown_alloc _ _ _, ho0, hn0⟩)
  have HDone := Lib.hid (show ∀ (l : List Need) (v : Value) (f : Nat) (F : List Nat) (a : World), TinyL 45 5 l → StN w1 c A len cap z v l f F a → NeedsDrawn w (.returned v) a from fun l v f F a hl S => ⟨l, v, f, F, hl, rfl, S.own.lower hb1.size, hb1.grown S.grown hb1.size (fun b hb => by injection hb with hb; omega)⟩)
  clear hc hown0 ho0 hn0 hb1 hcw
  go_wp2_with fail
  go_loopw [4, 5] (fun vo i wr => ∃ (j : Nat) (l : List Need) (f : Nat) (F : List Nat), j ≤ 4 ∧ i = .int .i64 j ∧ Hid (TinyL j 5 l) ∧ StN w1 c A len cap z vo l f F wr) (fun _ i _ => 5 - (intOf i).toNat)
  case atStart => exact ⟨0, [], 1, F0, by omega, rfl, Lib.hid ⟨by simp, fun x hx => by cases hx⟩, S0.out⟩
  case round =>
    clear S0
    obtain ⟨j, l, f, F, hj, rfl, hl, hst⟩ := hrel
    have HB := Lib.hid (below_any c A len cap z 5 wr hst.cur (by decide) (by decide))
    obtain ⟨Ao, co, rfl, _⟩ := els_of Need.row_length hst.own.lies
    have Hst := Lib.hid hst
    clear hst
    go_wp2_with fail
    refine HB.out.mono ?_
    rintro e w2 ⟨x, hx, rfl, hc2, hg2⟩
    have S2 := Lib.hid (Hst.out.turn hclt hc2 hg2)
    clear HB Hst hc2 hg2
    by_cases hlt : (j : Int) < x
    · have HA := Lib.hid (anyneed_any c A len cap z w2 S2.out.cur)
      clear HDone
      go_wp2_with fail
      refine HA.out.mono ?_
      rintro e w3 ⟨⟨k, op, vs⟩, us, G, hy, rfl, hoG, hnG, hc3, hg3⟩
      obtain ⟨v, rfl, hov⟩ := nd_vals hoG
      simp only at hov
      obtain ⟨A2, c2, rfl, hcA, _⟩ := Str.opened hov.lies
      have hgb3 : ∀ g, A2 = some ⟨g, 0, none⟩ → g < w3.heap.size := fun g hA => by
        have h0 := hov
        rw [Str.flat] at h0
        obtain ⟨e, hr, _, _⟩ := own_strs_row h0
        exact (hr.lt g (by rw [hA]; rfl)).2
      obtain ⟨X, hX⟩ : ∃ X, X = w3.alloc (.cells #[.string k, .int .i64 op, .slice A2 vs.length c2] 31) := ⟨_, rfl⟩
      have hbX : Below w3.heap.size w3 X := by rw [hX]; exact (Below.refl _ _).alloc (Nat.le_refl _) _
      have hX6 : X.heap[w3.heap.size]? = some (.cells #[.string k, .int .i64 op, .slice A2 vs.length c2] 31 (0, 0)) := by rw [hX]; exact heap_alloc_new w3 _
      have hs2 := S2.out.grown.size
      have hs3 := hg3.size
      have hb13 : w2.heap.size ≤ w3.heap.size := hs3
      have HQ := Lib.hid (show BoxN w2 c A len cap z w3.heap.size ⟨k, op, vs⟩ (.slice A2 vs.length c2) G X from ⟨hc3.below hbX hc3.lt, grown_below hg3 (hbX.mono hs3), hoG.below hbX, hnG, hX6⟩)
      have Hov := Lib.hid (hov.below hbX)
      have p2 : X.cell? ⟨w3.heap.size, 2, none⟩ = some (.slice A2 vs.length c2) := by rw [cell_of_row _ _ 2 _ _ _ hX6]; rfl
      have hone : (#[Value.string k, .int .i64 op, .slice A2 vs.length c2]).all (·.oneCell') = true := by simp [Value.oneCell']
      have hc2lt : c < w2.heap.size := by omega
      have Hgb := Lib.hid hgb3
      have HcA := Lib.hid hcA
      have Hy := Lib.hid hy
      have HX := Lib.hid hX
      clear HA hy hoG hnG hc3 hg3 hov hX hbX hX6 hs2 hs3 hgb3 hcA
      by_cases hn2 : 1 < (vs.length : Int)
      · have HO := Lib.hid (once_any c A len cap z 2 X HQ.out.cur (by decide) (by decide))
        go_wp2_with (first | (refine wpList_store_row rfl 31 _ _ rfl w3.heap.size #[.string k, .int .i64 op, .slice A2 vs.length c2] rfl rfl 31 _ (heap_alloc_new w3 _) sizeNeed rfl hone ?_; rw [World.setRow_alloc_new, ← HX.out]) | fail)
        refine HO.out.mono ?_
        rintro e w4 ⟨b, rfl, hc4, hg4⟩
        have HQ4 := Lib.hid (HQ.out.turn hc2lt hb13 hc4 hg4)
        have Hov4 := Lib.hid (own_curN Hov.out hc2lt hg4)
        clear HO HQ hc4 hg4 p2 HX hone Hov
        cases b with
        | false =>
          have HQ := Lib.hid HQ4.out
          clear HQ4 Hov4 Hgb HcA
          have q0 : w4.cell? ⟨w3.heap.size, 0, none⟩ = some (.string k) := by rw [cell_of_row _ _ 0 _ _ _ HQ.out.box]; rfl
          have q1 : w4.cell? ⟨w3.heap.size, 1, none⟩ = some (.int .i64 op) := by rw [cell_of_row _ _ 1 _ _ _ HQ.out.box]; rfl
          have q2 : w4.cell? ⟨w3.heap.size, 2, none⟩ = some (.slice A2 vs.length c2) := by rw [cell_of_row _ _ 2 _ _ _ HQ.out.box]; rfl
          obtain ⟨e0, xs, hrX, hrd, hones, hsX, hgrow⟩ := grow_list (T := 31) 31 S2.out hclt HQ.out.cur HQ.out.grown HQ.out.own HQ.out.nd rfl
          have HM := Lib.hid (hl.out.snoc (show TinyN 5 ⟨k, op, vs⟩ from Hy.out.more (by decide)))
          have hl4 := hl.out.1
          have HrX := Lib.hid hrX
          have Hrd := Lib.hid hrd
          have Hones := Lib.hid hones
          have HsX := Lib.hid hsX
          have HGr := Lib.hid hgrow
          clear S2 HQ hrX hrd hones hsX hgrow hl
          go_wp2_with (first | (at_builtin; refine wpList_append_anyE rfl (.tmp 42) (.tmp 44) 24 rfl w1.heap.size 31 e0 i0 _ 3 48 Tryz.underlying24 hi hz0 hz1 hz2 rfl (by decide) _ l.length xs rfl HrX.out w4.heap.size 1 1 [.string k, .int .i64 op, .slice A2 vs.length c2] rfl Hrd.out (by decide) Hones.out (by unfold maxLen; omega) (by omega) HsX.out ?_) | fail)
          intro v9 w9 e9 hown9 hg9 hat9
          obtain ⟨F9, hS9⟩ := HGr.out v9 w9 e9 hown9 hg9 hat9
          have S9 := Lib.hid hS9
          clear hown9 hg9 hat9 hS9 HrX Hrd Hones HsX HGr
          go_wp2_with fail
          go_roundw
          case rel => exact ⟨j + 1, _, _, F9, by omega, by go_num, HM.out, S9.out⟩
          case measure => simp [intOf]; omega
        | true =>
          have hvn : vs.length ≤ 4 := Hy.out.n
          have hov8 := Hov4.out
          rw [Str.flat] at hov8
          obtain ⟨e8, hrow8, _, _⟩ := own_strs_row hov8
          obtain ⟨g, c8, hv8⟩ := ownV_pos hrow8 (by omega)
          injection hv8 with hA2 _ hc28
          have hgb3 := Hgb.out g hA2
          subst hA2 hc28
          have hg4 : g < w4.heap.size := (hrow8.lt g rfl).2
          have hbox := HQ4.out.box
          have Hbox := Lib.hid hbox
          have hb4 : w3.heap.size < w4.heap.size := heap_lt hbox
          have hgb : g ≠ w3.heap.size := by omega
          obtain ⟨s0, hs0m, hs0⟩ : ∃ s0, s0 ∈ vs ∧ w4.cell? ⟨g, 0, none⟩ = some (.string s0) := by
            have h0 : 0 < vs.length := by omega
            have hu : (scells vs)[0]? = some (.string vs[0]) := by
              unfold scells
              rw [List.getElem?_map, List.getElem?_eq_getElem h0]
              rfl
            have := hrow8.cells (g := g) rfl 0 _ hu
            rw [Addr.add_lit] at this
            exact ⟨vs[0], List.getElem_mem h0, this⟩
          have hrd8 := own_rdk hrow8 1 1 (vs.length - 1) rfl (by omega)
          rw [scells_drop1, List.take_of_length_le (by rw [scells_length, List.length_drop]; omega)] at hrd8
          have Hrd8 := Lib.hid hrd8
          have p2 : w4.cell? ⟨w3.heap.size, 2, none⟩ = some (.slice (some ⟨g, 0, none⟩) vs.length c2) := by rw [cell_of_row _ _ 2 _ _ _ hbox]; rfl
          have f2 := frozen_of_row w4 w3.heap.size 2 _ _ hbox
          have hn1 : (1 : Int) ≤ (vs.length : Int) := by omega
          have hn0 : (0 : Int) < (vs.length : Int) := by omega
          have hk64 : vs.length - 1 ≤ 64 := by omega
          have hcap : vs.length ≤ c2 := HcA.out
          have hc21 : ¬ c2 = 1 := by omega
          have HRB := Lib.hid (fun (w6 : World) (v6 : Value) (h1 : w6.ownsRow w4.heap.size 9 1 v6 (vs.length - 1 + 2) (scells (vs.drop 1 ++ [s0, s0]))) (h2 : Below w4.heap.size w4 w6) => rot_box HQ4.out hc2lt hb13 Hy.out (by omega) hs0m h1 h2)
          have HTy := Lib.hid (rot_tiny Hy.out (by omega) hs0m)
          clear hrow8 hrd8 hbox hs0m Hov4 HQ4 Hgb HcA hov8 hgb3
          go_upto_region 8 with fail
          go_cut [4] from 10 to 45 (fun s4 wx => s4 = .slice Ao l.length co ∧ ∃ g8 c9 G8, BoxN w2 c A len cap z w3.heap.size ⟨k, op, vs.drop 1 ++ [s0, s0]⟩ (.slice (some ⟨g8, 0, none⟩) (vs.length - 1 + 2) c9) G8 wx)
          case first =>
            clear S2 Hy HTy hl
            have hn00 : 0 < vs.length := by omega
            have KS : ∀ X : World, Below w4.heap.size w4 X → X.cell? ⟨w3.heap.size, 2, none⟩ = some (.slice (some ⟨g, 0, none⟩) vs.length c2) ∧ X.cell? ⟨g, 0, none⟩ = some (.string s0) := fun X hb => ⟨(World.cell?_of_block (hb.block w3.heap.size hb4)).trans p2, (World.cell?_of_block (hb.block g hg4)).trans hs0⟩
            refine wp_region_noPanic ?_
            refine wp_region_T 16 (by kernel_rfl) (fun w' => w'.cell? ⟨w3.heap.size, 2, none⟩ = some (.slice (some ⟨g, 0, none⟩) vs.length c2) ∧ w'.cell? ⟨g, 0, none⟩ = some (.string s0)) ?_
            refine goT_take (i := 1) (v := ?_) rfl (by kernel_rfl) (fun _ _ _ h => h) (Or.inl ⟨by rfl, ?_⟩) (KS _ (Below.refl _ _).drew) ?_
            rotate_left
            · intro w' hSw
              obtain ⟨hw1, hw2⟩ := hSw
              go_simp
              try with_reducible rfl
            try simp only [Act.put, List.setIfInBounds_toArray, List.set_cons_zero, List.set_cons_succ, List.getElem_toArray, List.getElem_cons_zero, List.getElem_cons_succ]
            refine goT_take (i := 2) (v := ?_) rfl (by kernel_rfl) (fun _ _ _ h => h) (Or.inl ⟨by rfl, ?_⟩) (KS _ (Below.refl _ _).drew) ?_
            rotate_left
            · intro w' hSw
              obtain ⟨hw1, hw2⟩ := hSw
              go_simp
              try with_reducible rfl
            try simp only [Act.put, List.setIfInBounds_toArray, List.set_cons_zero, List.set_cons_succ, List.getElem_toArray, List.getElem_cons_zero, List.getElem_cons_succ]
            refine goT_take (i := 3) (v := ?_) rfl (by kernel_rfl) (fun _ _ _ h => h) (Or.inl ⟨by rfl, ?_⟩) (KS _ (Below.refl _ _).drew) ?_
            rotate_left
            · intro w' hSw
              obtain ⟨hw1, hw2⟩ := hSw
              go_simp
              try with_reducible rfl
            try simp only [Act.put, List.setIfInBounds_toArray, List.set_cons_zero, List.set_cons_succ, List.getElem_toArray, List.getElem_cons_zero, List.getElem_cons_succ]
            refine goT_take (i := 5) (v := ?_) rfl (by kernel_rfl) (fun _ _ _ h => h) (Or.inl ⟨by rfl, ?_⟩) (KS _ (Below.refl _ _).drew) ?_
            rotate_left
            · intro w' hSw
              obtain ⟨hw1, hw2⟩ := hSw
              go_simp
              try with_reducible rfl
            try simp only [Act.put, List.setIfInBounds_toArray, List.set_cons_zero, List.set_cons_succ, List.getElem_toArray, List.getElem_cons_zero, List.getElem_cons_succ]
            refine goT_take (i := 6) (v := ?_) rfl (by kernel_rfl) (fun _ _ _ h => h) (Or.inl ⟨by rfl, ?_⟩) (KS _ (Below.refl _ _).drew) ?_
            rotate_left
            · intro w' hSw
              obtain ⟨hw1, hw2⟩ := hSw
              go_simp
              try with_reducible rfl
            try simp only [Act.put, List.setIfInBounds_toArray, List.set_cons_zero, List.set_cons_succ, List.getElem_toArray, List.getElem_cons_zero, List.getElem_cons_succ]
            refine goT_take (i := 7) (v := ?_) rfl (by kernel_rfl) (fun _ _ _ h => h) (Or.inl ⟨by rfl, ?_⟩) (KS _ (Below.refl _ _).drew) ?_
            rotate_left
            · intro w' hSw
              obtain ⟨hw1, hw2⟩ := hSw
              go_simp
              try with_reducible rfl
            try simp only [Act.put, List.setIfInBounds_toArray, List.set_cons_zero, List.set_cons_succ, List.getElem_toArray, List.getElem_cons_zero, List.getElem_cons_succ]
            refine goT_take (i := 8) (v := ?_) rfl (by kernel_rfl) (fun _ _ _ h => h) (Or.inl ⟨by rfl, ?_⟩) (KS _ (Below.refl _ _).drew) ?_
            rotate_left
            · intro w' hSw
              obtain ⟨hw1, hw2⟩ := hSw
              go_simp
              try with_reducible rfl
            try simp only [Act.put, List.setIfInBounds_toArray, List.set_cons_zero, List.set_cons_succ, List.getElem_toArray, List.getElem_cons_zero, List.getElem_cons_succ]
            refine goT_take (i := 9) (v := ?_) rfl (by kernel_rfl) (fun _ _ _ h => h) (Or.inl ⟨by rfl, ?_⟩) (KS _ (Below.refl _ _).drew) ?_
            rotate_left
            · intro w' hSw
              obtain ⟨hw1, hw2⟩ := hSw
              go_simp
              try with_reducible rfl
            try simp only [Act.put, List.setIfInBounds_toArray, List.set_cons_zero, List.set_cons_succ, List.getElem_toArray, List.getElem_cons_zero, List.getElem_cons_succ]
            refine goT_take (i := 10) (v := ?_) rfl (by kernel_rfl) (fun _ _ _ h => h) (Or.inl ⟨by rfl, ?_⟩) (KS _ (Below.refl _ _).drew) ?_
            rotate_left
            · intro w' hSw
              obtain ⟨hw1, hw2⟩ := hSw
              go_simp
              try with_reducible rfl
            try simp only [Act.put, List.setIfInBounds_toArray, List.set_cons_zero, List.set_cons_succ, List.getElem_toArray, List.getElem_cons_zero, List.getElem_cons_succ]
            refine goT_take (i := 11) (v := ?_) rfl (by kernel_rfl) (fun _ _ _ h => h) (Or.inl ⟨by rfl, ?_⟩) (KS _ (Below.refl _ _).drew) ?_
            rotate_left
            · intro w' hSw
              obtain ⟨hw1, hw2⟩ := hSw
              go_simp
              try with_reducible rfl
            try simp only [Act.put, List.setIfInBounds_toArray, List.set_cons_zero, List.set_cons_succ, List.getElem_toArray, List.getElem_cons_zero, List.getElem_cons_succ]
            refine goT_take (i := 12) (v := ?_) rfl (by kernel_rfl) (fun _ _ _ h => h) (Or.inl ⟨by rfl, ?_⟩) (KS _ (Below.refl _ _).drew) ?_
            rotate_left
            · intro w' hSw
              obtain ⟨hw1, hw2⟩ := hSw
              go_simp
              try with_reducible rfl
            try simp only [Act.put, List.setIfInBounds_toArray, List.set_cons_zero, List.set_cons_succ, List.getElem_toArray, List.getElem_cons_zero, List.getElem_cons_succ]
            refine goT_ready (rs := [0, 13]) (by kernel_rfl) (by simp) ?_
            refine ReadyT.cons rfl (by decide) (fun K hK => ?_) ?_
            · go_simp
              refine hK.out _ _ ?_ ?_
              · first | exact KS _ (belV1 _ _) | exact KS _ (belV2 _ _ _) | exact KS _ (hb5.alloc hb5.size _)
              clear hK K
              try simp only [Act.put, List.setIfInBounds_toArray, List.set_cons_zero, List.set_cons_succ, List.getElem_toArray, List.getElem_cons_zero, List.getElem_cons_succ]
              refine goT_ready (rs := [4, 13]) (by kernel_rfl) (by simp) ?_
              refine ReadyT.cons rfl (by decide) (fun K hK => ?_) ?_
              · refine rot_first (wd := w4) 26 29 rfl rfl _ rfl ?_ ?_ (some ⟨g, 1, none⟩) (vs.length - 1) (c2 - 1) (vs.drop 1) rfl Hrd8.out hk64 ?_
                · first | exact belV1 _ _ | exact belV2 _ _ _
                · first | exact litV1 _ | exact litV2 _ _ | exact litV3 _ _
                intro v5 w5 hown5 hb5 hs5 hkeep5
                refine hK.out _ _ (KS _ hb5) ?_
                clear hK K
                try simp only [Act.put, List.setIfInBounds_toArray, List.set_cons_zero, List.set_cons_succ, List.getElem_toArray, List.getElem_cons_zero, List.getElem_cons_succ]
                refine goT_ready (rs := [13]) (by kernel_rfl) (by simp) ?_
                refine ReadyT.cons rfl (by decide) (fun K hK => ?_) ?_
                · go_simp
                  refine hK.out _ _ ?_ ?_
                  · first | exact KS _ (belV1 _ _) | exact KS _ (belV2 _ _ _) | exact KS _ (hb5.alloc hb5.size _)
                  clear hK K
                  try simp only [Act.put, List.setIfInBounds_toArray, List.set_cons_zero, List.set_cons_succ, List.getElem_toArray, List.getElem_cons_zero, List.getElem_cons_succ]
                  refine goT_ready (rs := [14]) (by kernel_rfl) (by simp) ?_
                  refine ReadyT.cons rfl (by decide) (fun K hK => ?_) ?_
                  · refine rot_second (wd := w4) 30 39 rfl rfl _ (vs.length - 1) (vs.drop 1) s0 rfl ?_ ?_ (some ⟨_, 0, none⟩) rfl ?_ hk64 ?_
                    · first | exact hb5 | exact hb5.alloc hb5.size _
                    · first | exact hown5 | exact own_below' hown5 ((Below.refl _ _).alloc (Nat.le_refl _) _)
                    · first | exact hr5 | exact rdkW_lit _ _ _
                    intro v6 w6 hown6 hb6
                    obtain ⟨g6, c6, rfl⟩ := ownV_pos hown6 (by omega)
                    have e6 := (KS _ hb6).1
                    have f6 : w6.frozen? ⟨w3.heap.size, 2, none⟩ = false := frozen_of_row w6 w3.heap.size 2 _ _ (heap_kept hb6 hb4 Hbox.out)
                    refine hK.out _ _ (KS _ hb6) ?_
                    clear hK K
                    try simp only [Act.put, List.setIfInBounds_toArray, List.set_cons_zero, List.set_cons_succ, List.getElem_toArray, List.getElem_cons_zero, List.getElem_cons_succ]
                    refine goT_take (i := 15) (v := ?_) rfl (by kernel_rfl) (fun _ _ _ h => h) (Or.inl ⟨by rfl, ?_⟩) (KS _ hb6) ?_
                    rotate_left
                    · intro w' hSw
                      obtain ⟨hw1, hw2⟩ := hSw
                      go_simp
                      try with_reducible rfl
                    try simp only [Act.put, List.setIfInBounds_toArray, List.set_cons_zero, List.set_cons_succ, List.getElem_toArray, List.getElem_cons_zero, List.getElem_cons_succ]
                    refine goT_last (by kernel_rfl) (by kernel_rfl) rfl (fun K hK => ?_)
                    go_simp
                    refine hK.out _ _ ?_
                    refine NoPanic.normal ?_
                    obtain ⟨G8, hG8⟩ := HRB.out w6 _ hown6 hb6
                    go_wp2_with fail
                    go_meet
                    exact ⟨rfl, g6, c6, G8, hG8⟩
                  exact ReadyT.nil
                exact ReadyT.nil
              refine ReadyT.cons rfl (by decide) (fun K hK => ?_) ?_
              · go_simp
                refine hK.out _ _ ?_ ?_
                · first | exact KS _ (belV1 _ _) | exact KS _ (belV2 _ _ _) | exact KS _ (hb5.alloc hb5.size _)
                clear hK K
                try simp only [Act.put, List.setIfInBounds_toArray, List.set_cons_zero, List.set_cons_succ, List.getElem_toArray, List.getElem_cons_zero, List.getElem_cons_succ]
                refine goT_ready (rs := [4]) (by kernel_rfl) (by simp) ?_
                refine ReadyT.cons rfl (by decide) (fun K hK => ?_) ?_
                · refine rot_first (wd := w4) 26 29 rfl rfl _ rfl ?_ ?_ (some ⟨g, 1, none⟩) (vs.length - 1) (c2 - 1) (vs.drop 1) rfl Hrd8.out hk64 ?_
                  · first | exact belV1 _ _ | exact belV2 _ _ _
                  · first | exact litV1 _ | exact litV2 _ _ | exact litV3 _ _
                  intro v5 w5 hown5 hb5 hs5 hkeep5
                  first | have hr5 := rdkW2 hkeep5 | have hr5 := rdkW3 hkeep5
                  refine hK.out _ _ (KS _ hb5) ?_
                  clear hK K
                  try simp only [Act.put, List.setIfInBounds_toArray, List.set_cons_zero, List.set_cons_succ, List.getElem_toArray, List.getElem_cons_zero, List.getElem_cons_succ]
                  refine goT_ready (rs := [14]) (by kernel_rfl) (by simp) ?_
                  refine ReadyT.cons rfl (by decide) (fun K hK => ?_) ?_
                  · refine rot_second (wd := w4) 30 39 rfl rfl _ (vs.length - 1) (vs.drop 1) s0 rfl ?_ ?_ (some ⟨_, 0, none⟩) rfl ?_ hk64 ?_
                    · first | exact hb5 | exact hb5.alloc hb5.size _
                    · first | exact hown5 | exact own_below' hown5 ((Below.refl _ _).alloc (Nat.le_refl _) _)
                    · first | exact hr5 | exact rdkW_lit _ _ _
                    intro v6 w6 hown6 hb6
                    obtain ⟨g6, c6, rfl⟩ := ownV_pos hown6 (by omega)
                    have e6 := (KS _ hb6).1
                    have f6 : w6.frozen? ⟨w3.heap.size, 2, none⟩ = false := frozen_of_row w6 w3.heap.size 2 _ _ (heap_kept hb6 hb4 Hbox.out)
                    refine hK.out _ _ (KS _ hb6) ?_
                    clear hK K
                    try simp only [Act.put, List.setIfInBounds_toArray, List.set_cons_zero, List.set_cons_succ, List.getElem_toArray, List.getElem_cons_zero, List.getElem_cons_succ]
                    refine goT_take (i := 15) (v := ?_) rfl (by kernel_rfl) (fun _ _ _ h => h) (Or.inl ⟨by rfl, ?_⟩) (KS _ hb6) ?_
                    rotate_left
                    · intro w' hSw
                      obtain ⟨hw1, hw2⟩ := hSw
                      go_simp
                      try with_reducible rfl
                    try simp only [Act.put, List.setIfInBounds_toArray, List.set_cons_zero, List.set_cons_succ, List.getElem_toArray, List.getElem_cons_zero, List.getElem_cons_succ]
                    refine goT_last (by kernel_rfl) (by kernel_rfl) rfl (fun K hK => ?_)
                    go_simp
                    refine hK.out _ _ ?_
                    refine NoPanic.normal ?_
                    obtain ⟨G8, hG8⟩ := HRB.out w6 _ hown6 hb6
                    go_wp2_with fail
                    go_meet
                    exact ⟨rfl, g6, c6, G8, hG8⟩
                  exact ReadyT.nil
                exact ReadyT.nil
              exact ReadyT.nil
            refine ReadyT.cons rfl (by decide) (fun K hK => ?_) ?_
            · go_simp
              refine hK.out _ _ ?_ ?_
              · first | exact KS _ (belV1 _ _) | exact KS _ (belV2 _ _ _) | exact KS _ (hb5.alloc hb5.size _)
              clear hK K
              try simp only [Act.put, List.setIfInBounds_toArray, List.set_cons_zero, List.set_cons_succ, List.getElem_toArray, List.getElem_cons_zero, List.getElem_cons_succ]
              refine goT_ready (rs := [0]) (by kernel_rfl) (by simp) ?_
              refine ReadyT.cons rfl (by decide) (fun K hK => ?_) ?_
              · go_simp
                refine hK.out _ _ ?_ ?_
                · first | exact KS _ (belV1 _ _) | exact KS _ (belV2 _ _ _) | exact KS _ (hb5.alloc hb5.size _)
                clear hK K
                try simp only [Act.put, List.setIfInBounds_toArray, List.set_cons_zero, List.set_cons_succ, List.getElem_toArray, List.getElem_cons_zero, List.getElem_cons_succ]
                refine goT_ready (rs := [4]) (by kernel_rfl) (by simp) ?_
                refine ReadyT.cons rfl (by decide) (fun K hK => ?_) ?_
                · refine rot_first (wd := w4) 26 29 rfl rfl _ rfl ?_ ?_ (some ⟨g, 1, none⟩) (vs.length - 1) (c2 - 1) (vs.drop 1) rfl Hrd8.out hk64 ?_
                  · first | exact belV1 _ _ | exact belV2 _ _ _
                  · first | exact litV1 _ | exact litV2 _ _ | exact litV3 _ _
                  intro v5 w5 hown5 hb5 hs5 hkeep5
                  first | have hr5 := rdkW2 hkeep5 | have hr5 := rdkW3 hkeep5
                  refine hK.out _ _ (KS _ hb5) ?_
                  clear hK K
                  try simp only [Act.put, List.setIfInBounds_toArray, List.set_cons_zero, List.set_cons_succ, List.getElem_toArray, List.getElem_cons_zero, List.getElem_cons_succ]
                  refine goT_ready (rs := [14]) (by kernel_rfl) (by simp) ?_
                  refine ReadyT.cons rfl (by decide) (fun K hK => ?_) ?_
                  · refine rot_second (wd := w4) 30 39 rfl rfl _ (vs.length - 1) (vs.drop 1) s0 rfl ?_ ?_ (some ⟨_, 0, none⟩) rfl ?_ hk64 ?_
                    · first | exact hb5 | exact hb5.alloc hb5.size _
                    · first | exact hown5 | exact own_below' hown5 ((Below.refl _ _).alloc (Nat.le_refl _) _)
                    · first | exact hr5 | exact rdkW_lit _ _ _
                    intro v6 w6 hown6 hb6
                    obtain ⟨g6, c6, rfl⟩ := ownV_pos hown6 (by omega)
                    have e6 := (KS _ hb6).1
                    have f6 : w6.frozen? ⟨w3.heap.size, 2, none⟩ = false := frozen_of_row w6 w3.heap.size 2 _ _ (heap_kept hb6 hb4 Hbox.out)
                    refine hK.out _ _ (KS _ hb6) ?_
                    clear hK K
                    try simp only [Act.put, List.setIfInBounds_toArray, List.set_cons_zero, List.set_cons_succ, List.getElem_toArray, List.getElem_cons_zero, List.getElem_cons_succ]
                    refine goT_take (i := 15) (v := ?_) rfl (by kernel_rfl) (fun _ _ _ h => h) (Or.inl ⟨by rfl, ?_⟩) (KS _ hb6) ?_
                    rotate_left
                    · intro w' hSw
                      obtain ⟨hw1, hw2⟩ := hSw
                      go_simp
                      try with_reducible rfl
                    try simp only [Act.put, List.setIfInBounds_toArray, List.set_cons_zero, List.set_cons_succ, List.getElem_toArray, List.getElem_cons_zero, List.getElem_cons_succ]
                    refine goT_last (by kernel_rfl) (by kernel_rfl) rfl (fun K hK => ?_)
                    go_simp
                    refine hK.out _ _ ?_
                    refine NoPanic.normal ?_
                    obtain ⟨G8, hG8⟩ := HRB.out w6 _ hown6 hb6
                    go_wp2_with fail
                    go_meet
                    exact ⟨rfl, g6, c6, G8, hG8⟩
                  exact ReadyT.nil
                exact ReadyT.nil
              exact ReadyT.nil
            exact ReadyT.nil
          case rest =>
            obtain ⟨rfl, g8, c9, G8, hG8⟩ := hcut
            have HQ := Lib.hid hG8
            have hvl : (vs.drop 1 ++ [s0, s0]).length = vs.length - 1 + 2 := by simp
            obtain ⟨n8, hn8⟩ : ∃ n8, n8 = vs.length - 1 + 2 := ⟨_, rfl⟩
            rw [← hn8] at HQ hvl
            obtain ⟨wq, rfl⟩ : ∃ wq, wq = wc := ⟨_, rfl⟩
            obtain ⟨vs', hvs'⟩ : ∃ vs', vs' = vs.drop 1 ++ [s0, s0] := ⟨_, rfl⟩
            rw [← hvs'] at HTy HQ
            clear hG8 hvl hvs' HRB Hrd8 p2 f2 hn8
            have q0 : wq.cell? ⟨w3.heap.size, 0, none⟩ = some (.string k) := by rw [cell_of_row _ _ 0 _ _ _ HQ.out.box]; rfl
            have q1 : wq.cell? ⟨w3.heap.size, 1, none⟩ = some (.int .i64 op) := by rw [cell_of_row _ _ 1 _ _ _ HQ.out.box]; rfl
            have q2 : wq.cell? ⟨w3.heap.size, 2, none⟩ = some (.slice (some ⟨g8, 0, none⟩) n8 c9) := by rw [cell_of_row _ _ 2 _ _ _ HQ.out.box]; rfl
            obtain ⟨e0, xs, hrX, hrd, hones, hsX, hgrow⟩ := grow_list (T := 31) 31 S2.out hclt HQ.out.cur HQ.out.grown HQ.out.own HQ.out.nd rfl
            have HM := Lib.hid (hl.out.snoc HTy.out)
            have hl4 := hl.out.1
            have HrX := Lib.hid hrX
            have Hrd := Lib.hid hrd
            have Hones := Lib.hid hones
            have HsX := Lib.hid hsX
            have HGr := Lib.hid hgrow
            clear S2 HQ hrX hrd hones hsX hgrow hl
            go_wp2_with (first | (at_builtin; refine wpList_append_anyE rfl (.tmp 42) (.tmp 44) 24 rfl w1.heap.size 31 e0 i0 _ 3 48 Tryz.underlying24 hi hz0 hz1 hz2 rfl (by decide) _ l.length xs rfl HrX.out wq.heap.size 1 1 [.string k, .int .i64 op, .slice (some ⟨g8, 0, none⟩) n8 c9] rfl Hrd.out (by decide) Hones.out (by unfold maxLen; omega) (by omega) HsX.out ?_) | fail)
            intro v9 w9 e9 hown9 hg9 hat9
            obtain ⟨F9, hS9⟩ := HGr.out v9 w9 e9 hown9 hg9 hat9
            have S9 := Lib.hid hS9
            clear hown9 hg9 hat9 hS9 HrX Hrd Hones HsX HGr
            go_wp2_with fail
            go_roundw
            case rel => exact ⟨j + 1, _, _, F9, by omega, by go_num, HM.out, S9.out⟩
            case measure => simp [intOf]; omega
      · clear Hov Hgb HcA
        have q0 : X.cell? ⟨w3.heap.size, 0, none⟩ = some (.string k) := by rw [cell_of_row _ _ 0 _ _ _ HQ.out.box]; rfl
        have q1 : X.cell? ⟨w3.heap.size, 1, none⟩ = some (.int .i64 op) := by rw [cell_of_row _ _ 1 _ _ _ HQ.out.box]; rfl
        have q2 : X.cell? ⟨w3.heap.size, 2, none⟩ = some (.slice A2 vs.length c2) := by rw [cell_of_row _ _ 2 _ _ _ HQ.out.box]; rfl
        obtain ⟨e0, xs, hrX, hrd, hones, hsX, hgrow⟩ := grow_list (T := 31) 31 S2.out hclt HQ.out.cur HQ.out.grown HQ.out.own HQ.out.nd rfl
        have HM := Lib.hid (hl.out.snoc (show TinyN 5 ⟨k, op, vs⟩ from Hy.out.more (by decide)))
        have hl4 := hl.out.1
        have HrX := Lib.hid hrX
        have Hrd := Lib.hid hrd
        have Hones := Lib.hid hones
        have HsX := Lib.hid hsX
        have HGr := Lib.hid hgrow
        clear S2 HQ hrX hrd hones hsX hgrow hl
        go_wp2_with (first | (refine wpList_store_row rfl 31 _ _ rfl w3.heap.size #[.string k, .int .i64 op, .slice A2 vs.length c2] rfl rfl 31 _ (heap_alloc_new w3 _) sizeNeed rfl hone ?_; rw [World.setRow_alloc_new, ← HX.out]) | (at_builtin; refine wpList_append_anyE rfl (.tmp 42) (.tmp 44) 24 rfl w1.heap.size 31 e0 i0 _ 3 48 Tryz.underlying24 hi hz0 hz1 hz2 rfl (by decide) _ l.length xs rfl HrX.out X.heap.size 1 1 [.string k, .int .i64 op, .slice A2 vs.length c2] rfl Hrd.out (by decide) Hones.out (by unfold maxLen; omega) (by omega) HsX.out ?_) | fail)
        intro v9 w9 e9 hown9 hg9 hat9
        obtain ⟨F9, hS9⟩ := HGr.out v9 w9 e9 hown9 hg9 hat9
        have S9 := Lib.hid hS9
        clear hown9 hg9 hat9 hS9 HrX Hrd Hones HsX HGr
        go_wp2_with fail
        go_roundw
        case rel => exact ⟨j + 1, _, _, F9, by omega, by go_num, HM.out, S9.out⟩
        case measure => simp [intOf]; omega
    · have HO := Lib.hid (once_any c A len cap z 20 w2 S2.out.cur (by decide) (by decide))
      go_wp2_with fail
      refine HO.out.mono ?_
      rintro e w5 ⟨b, rfl, hc5, hg5⟩
      have S5 := Lib.hid (S2.out.turn hclt hc5 hg5)
      clear HO S2 hc5 hg5
      cases b with
      | false =>
        have HR := Lib.hid (HDone.out _ _ _ _ _ (hl.out.more (by omega) (Nat.le_refl _)) S5.out)
        go_wp2_with fail
        go_ret
        exact HR.out
      | true =>
        have Hl41 := Lib.hid (show TinyL 41 5 l from hl.out.more (by omega) (Nat.le_refl _))
        clear hl hlt hx hj
        go_wp2_with fail
        go_loopw [4] (fun vo wx => ∃ (m : List Need) (f : Nat) (F : List Nat), Hid (TinyL 41 5 m) ∧ StN w1 c A len cap z vo m f F wx) (fun vo _ => 42 - lenV vo)
        case atStart => exact ⟨_, _, _, Hl41.out, S5.out⟩
        case round =>
          clear S5 Hl41
          obtain ⟨m, f, F, hm, hst⟩ := hrel
          obtain ⟨Am, cm, rfl, _⟩ := els_of Need.row_length hst.own.lies
          have S6 := Lib.hid hst
          have HB := Lib.hid (below_any c A len cap z 2 wr hst.cur (by decide) (by decide))
          clear hst
          go_wp2_with fail
          refine HB.out.mono ?_
          rintro e w6 ⟨x, hx, rfl, hc6, hg6⟩
          have S7 := Lib.hid (S6.out.turn hclt hc6 hg6)
          have hwx : IntKind.i64.wrap (40 + x) = 40 + x := IntWalk.i64_in _ (by omega)
          clear hc6 hg6 HB S6
          by_cases hlt : (m.length : Int) < 40 + x
          · obtain ⟨e0, xs, hrX, hrd, hones, hsX, hgrow⟩ := grow_list (T := 31) 31 S7.out hclt S7.out.cur (World.grownBy.refl _ _) (own_hasA w6 w6.heap.size tiny_a) List.nodup_nil rfl
            have HM := Lib.hid (show TinyL 41 5 (m ++ [⟨⟨#[97]⟩, 3, []⟩]) from ⟨by simp; omega, (hm.out.snoc tiny_a).2⟩)
            have hm41 := hm.out.1
            have HrX := Lib.hid hrX
            have Hrd := Lib.hid hrd
            have Hones := Lib.hid hones
            have HsX := Lib.hid hsX
            have HGr := Lib.hid hgrow
            clear S7 hrX hrd hones hsX hgrow hm
            go_wp2_with (first | (at_builtin; refine wpList_append_anyE rfl (.tmp 54) (.tmp 56) 24 rfl w1.heap.size 31 e0 i0 _ 3 48 Tryz.underlying24 hi hz0 hz1 hz2 rfl (by decide) _ m.length xs rfl HrX.out w6.heap.size 1 1 [.string ⟨#[97]⟩, .int .i64 3, .slice none 0 0] rfl Hrd.out (by decide) Hones.out (by unfold maxLen; omega) (by omega) HsX.out ?_) | fail)
            intro v9 w9 e9 hown9 hg9 hat9
            obtain ⟨F9, hS9⟩ := HGr.out v9 w9 e9 hown9 hg9 hat9
            obtain ⟨A9, c9, rfl⟩ := own_is_slice hown9
            have S9 := Lib.hid hS9
            clear hown9 hg9 hat9 hS9 HrX Hrd Hones HsX HGr
            go_wp2_with fail
            go_roundw
            case rel => exact ⟨_, _, F9, HM.out, S9.out⟩
            case measure => simp [lenV]; omega
          · have HR := Lib.hid (HDone.out _ _ _ _ _ (hm.out.more (by omega) (Nat.le_refl _)) S7.out)
            go_wp2_with fail
            go_ret
            exact HR.out
end Go.Proofs.YtdgedclpaplgoaaGreatDoor.draw
