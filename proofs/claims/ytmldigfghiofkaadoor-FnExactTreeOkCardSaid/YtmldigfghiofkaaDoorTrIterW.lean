/- The function that impl.treesIn hands back keeps the iterator's contract. -/
import Derived.Test.YtmldigfghiofkaaDoorTrIterI
namespace Go.Proofs.YtmldigfghiofkaaDoor.tree
open Go.ChangeShapes Go.WideShapes Go.ChangeAt Go.RowKit Go.Shelf
set_option linter.unusedVariables false
attribute [local go_sem] Oper.semAt_some

theorem own_row_but {w w' : World} {B : Nat} {e : TypeId} {size : Nat} {v : Value} {n : Nat} {xs : List Value} {X : List Nat} (h : w.ownsRow B e size v n xs) (hk : KeptBut X w w') (hX : ∀ g, B ≤ g → g ∉ X) : w'.ownsRow B e size v n xs := by
  refine ⟨h.1, ?_⟩
  rcases h.2 with h0 | ⟨g, cap, cur, h0, h1, h2, h3⟩
  · exact .inl h0
  · exact .inr ⟨g, cap, cur, h0, h1, (hk.block g (heap_lt h2) (hX g h1)).trans h2, h3⟩
theorem LiesS.kids {w : World} {f : Nat} {u0 u1 u2 u3 u4 u5 : Value} {x : T} (h : LiesS w f [u0, u1, u2, u3, u4, u5] (row x)) : Lies w f u5 (.sl 6 x.kids.length (rows x.kids)) := by
  obtain ⟨k, fl, n, s, ks, kids⟩ := x
  exact h.2 5 u5 _ rfl rfl
structure ItS (w0 W : World) (f : Nat) (v0 : Value) (t : T) (bound : Nat) (g1 : Obj) (J : List (T × Nat) → World → Prop) (r : Value) (wr : World) (p : List (T × Nat)) (st : List (List T)) (vs : List Value) : Prop where
  own : wr.ownsRow (W.heap.size + 1) 25 1 r st.length vs.reverse
  stk : Stk w0 f v0 t vs st
  out : p ++ outs st = pre 1 t
  inv : J p wr
  bel : Below w0.heap.size w0 wr
  own1 : wr.heap[W.heap.size]? = some g1
  bd : leftS st ≤ bound
  sz : W.heap.size + 2 ≤ wr.heap.size
theorem ItS.head {w0 W : World} {f bound : Nat} {t x : T} {ty : TypeId} {J : List (T × Nat) → World → Prop} {r : Value} {wr : World} {p : List (T × Nat)} {l : List T} {st : List (List T)} {vs xs : List Value}
    (hI : ItS w0 W f (.slice (some ⟨W.heap.size, 0, none⟩) 1 1) t bound (.cells xs.toArray ty (0, 0)) J r wr p ((x :: l) :: st) vs) (hw0 : w0.heap.size ≤ W.heap.size) (ht : LiesS w0 f xs (row t)) :
    ∃ v vs' g o c u0 u1 u2 u3 u4 u5, vs = v :: vs' ∧ v = .slice (some ⟨g, o, none⟩) (l.length + 1) (c + 1) ∧ l.length ≤ c ∧ c + 1 ≤ maxLen ∧ (g < w0.heap.size ∨ g = W.heap.size) ∧ Six wr g o u0 u1 u2 u3 u4 u5 ∧ LiesS w0 f [u0, u1, u2, u3, u4, u5] (row x) ∧ Stk w0 f (.slice (some ⟨W.heap.size, 0, none⟩) 1 1) t vs' st ∧
      ∀ (A : Option Addr) (k : Nat), l.length ≤ k → k ≤ c → (0 < l.length → A = some ⟨g, o + 6, none⟩) → Lies w0 (f + 1) (.slice A l.length k) (.sl 6 l.length (rows l)) := by
  obtain ⟨v, vs', rfl, hv, hs⟩ := hI.stk.cons
  rcases hv with hv | ⟨rfl, hl⟩
  · obtain ⟨g, o, c, u0, u1, u2, u3, u4, u5, h1, h2, h3, h4, h5, h6, h7⟩ := Lies.head hv
    exact ⟨v, vs', g, o, c, u0, u1, u2, u3, u4, u5, rfl, h1, h2, h3, .inl h4, h5.block (hI.bel.block g h4), h6, hs, h7⟩
  · injection hl with h1 h2
    subst h1 h2
    obtain ⟨u0, u1, u2, u3, u4, u5, rfl⟩ := six_of (ht.1.trans (row_length x))
    obtain ⟨a0, a1, a2, a3, a4, a5⟩ := Row6.of hI.own1
    exact ⟨_, vs', W.heap.size, 0, 0, u0, u1, u2, u3, u4, u5, rfl, rfl, Nat.le_refl _, by simp [maxLen], .inr rfl, ⟨a0, a1, a2, a3, a4, a5⟩, ht, hs, fun A k h1 h2 h3 => ⟨A, k, rfl, h1, by simp [maxLen]; omega, by simp [rows], fun h => by simp at h⟩⟩

set_option maxRecDepth 100000 in
set_option maxHeartbeats 8000000 in
theorem iter_tree (N f : Nat) (t : T) (vs : List Value) (w0 w : World) (h : LiesS w0 f vs (row t)) (hsz : size t ≤ 1099511627776) (Bn : Nat) (hb0 : Below w0.heap.size w0 w) (hBn : w0.heap.size ≤ Bn)
    (hrow : w.heap[Bn]? = some (.cells vs.toArray 27 (0, 0))) :
    Iter Tryd.prog N 70 #[.pointer (some ⟨Bn, 0, none⟩)] (fun x => x < w0.heap.size ∨ x = Bn) (Arg w0 f) (pre 1 t) w := by
  intro l X J Jx W hW hX hJ hY h0
  obtain ⟨k, fl, m, s, ks, kids⟩ := t
  have hopen := open_tree h
  obtain ⟨A1, c1, A2, c2, rfl, _, _, _, _, _, _, _, _, _, _⟩ := hopen
  obtain ⟨t, ht⟩ : ∃ t, t = T.mk k fl m s ks kids := ⟨_, rfl⟩
  rw [← ht] at h hsz hY ⊢
  have hrow' : W.heap[Bn]? = some (.cells #[.int .i64 k, .bool fl, .int .i64 m, .string s, .slice A1 ks.length c1, .slice A2 kids.length c2] 27 (0, 0)) := (hW.block Bn (heap_lt hrow)).trans hrow
  obtain ⟨q0, q1, q2, q3, q4, q5⟩ := Row6.of hrow'
  -- the two blocks that the iterator lays
  obtain ⟨Wa, hWa⟩ : ∃ Wa, Wa = W.alloc (.cells #[.int .i64 k, .bool fl, .int .i64 m, .string s, .slice A1 ks.length c1, .slice A2 kids.length c2] 27) := ⟨_, rfl⟩
  obtain ⟨Wb, hWb⟩ : ∃ Wb, Wb = Wa.alloc (.cells #[.slice (some ⟨W.heap.size, 0, none⟩) 1 1] 25) := ⟨_, rfl⟩
  have hsa : Wa.heap.size = W.heap.size + 1 := by rw [hWa]; simp
  have hsb : Wb.heap.size = W.heap.size + 2 := by rw [hWb]; simp [hsa]
  have hba : Below W.heap.size W Wa := by rw [hWa]; exact (Below.refl _ _).alloc (Nat.le_refl _) _
  have hbb : Below W.heap.size W Wb := by rw [hWb]; exact hba.alloc (by omega) _
  have hga : Wb.heap[W.heap.size]? = some (.cells #[.int .i64 k, .bool fl, .int .i64 m, .string s, .slice A1 ks.length c1, .slice A2 kids.length c2] 27 (0, 0)) := by
    rw [hWb, Below.heap_alloc _ _ _ (by omega), hWa]
    exact heap_alloc_new W _
  have hown : Wb.ownsRow (W.heap.size + 1) 25 1 (.slice (some ⟨W.heap.size + 1, 0, none⟩) 1 1) 1 [.slice (some ⟨W.heap.size, 0, none⟩) 1 1] := by
    have h := World.ownsRow_lit (size := 1) (base := W.heap.size + 1) (e := 25) Wa #[.slice (some ⟨W.heap.size, 0, none⟩) 1 1] 1 (by omega) (by simp [maxLen]) rfl
    rw [hsa] at h
    rw [hWb]
    exact h
  have hJ0 : J [] Wb := hJ _ _ _ h0 hbb
  refine callsIn_of_wp Tryd.func70 rfl trivial ?_ rfl
  simp only [Tryd.ntmps70, List.size_toArray, List.length_cons, List.length_nil, Nat.reduceAdd, Nat.reduceSub, Array.replicate_succ, Array.replicate_zero, List.push_toArray, List.append_toArray, List.nil_append, List.cons_append]
  have HJ := Lib.hid hJ
  have HY := Lib.hid hY
  have HX := Lib.hid hX
  have HJ0 := Lib.hid hJ0
  have Hown := Lib.hid hown
  have Hga := Lib.hid hga
  have Hbb := Lib.hid hbb
  have HWa := Lib.hid hWa
  have HWb := Lib.hid hWb
  have Hht := Lib.hid ht
  have Hrow := Lib.hid hrow
  have Hh := Lib.hid h
  have Hb0 := Lib.hid hb0
  have HW := Lib.hid hW
  have Hsz := Lib.hid hsz
  clear hsz hJ hY hX hJ0 hown hga hbb hWa hWb ht hrow h hb0 hW hba h0 hrow'
  gi_wp2
  rw [← HWa.out, ← HWb.out]
  gi_loopg [3] (leftS [[t]]) (fun kk r wr => ∃ (p : List (T × Nat)) (st : List (List T)) (vs : List Value), kk = leftS st ∧
    Hid (ItS w0 W f (.slice (some ⟨W.heap.size, 0, none⟩) 1 1) t (2 * size t + 1) (.cells [Value.int .i64 k, .bool fl, .int .i64 m, .string s, .slice A1 ks.length c1, .slice A2 kids.length c2].toArray 27 (0, 0)) J r wr p st vs))
  case atStart =>
    refine ⟨[], [[t]], [.slice (some ⟨W.heap.size, 0, none⟩) 1 1], rfl, ⟨Hown.out, ⟨.inr ⟨rfl, rfl⟩, trivial⟩, by rw [outs_one]; rfl, HJ0.out, Hb0.out.trans ((HW.out.mono Hb0.out.size).trans (Hbb.out.mono ?_)), Hga.out, by simp [leftS, sizes], by omega⟩⟩
    have := HW.out.size
    have := Hb0.out.size
    omega
  case round =>
    obtain ⟨p, st, vs, rfl, hI⟩ := hrel
    cases st with
    | nil =>
      have hv := Stk.length hI.out.stk
      have hvs : vs = [] := List.eq_nil_of_length_eq_zero hv
      subst hvs
      obtain ⟨A, c, rfl⟩ := own_is_slice hI.out.own
      have HI := Lib.hid hI.out
      clear hI hv
      rw [List.length_nil]
      gi_wp2
      go_end0
      refine ⟨⟨_, rfl⟩, .inl ?_⟩
      have h := HI.out.out
      rw [outs, List.append_nil] at h
      rw [← h]
      exact HI.out.inv
    | cons y st =>
      cases y with
      | nil =>
        obtain ⟨v, vs', rfl, hv, hs⟩ := Stk.cons hI.out.stk
        obtain ⟨A, c, rfl⟩ : ∃ A c, v = .slice A 0 c := by
          rcases hv with hv | ⟨_, hv⟩
          · obtain ⟨A, c, rfl, _⟩ := hv.sl
            exact ⟨A, c, rfl⟩
          · cases hv
        have hown1 := hI.out.own
        rw [List.reverse_cons, List.length_cons] at hown1
        have hlen := Stk.length hs
        obtain ⟨g, cap, rfl⟩ := ownsRow_succ hown1
        have hc : wr.cell? ⟨g, st.length, none⟩ = some (.slice A 0 c) := by
          rw [hown1.cellAt st.length (by omega), List.getElem?_append_right (by rw [List.length_reverse, hlen]; exact Nat.le_refl _), List.length_reverse, hlen]
          simp
        have Hpop := Lib.hid (ownsRow_pop (by rw [List.length_reverse, hlen]; omega) hown1)
        have hcap : st.length + 1 ≤ cap := by
          rcases hown1.2 with ⟨h, _⟩ | ⟨g', cap', cur, h, _, _, h1, _⟩
          · cases h
          · injection h with _ _ h
            omega
        have HI := Lib.hid hI.out
        have Hs := Lib.hid hs
        clear hI hv hs hown1
        have hbd : (st.length : Int) + 1 ≤ 9223372036854775807 := by
          have hsz := Hsz.out
          have h1 := leftS_length ([] :: st)
          have h2 := HI.out.bd
          rw [List.length_cons] at h1
          omega
        gi_wp2
        go_roundg (leftS st)
        case measure => rw [left_pop]; omega
        case rel =>
          refine ⟨p, st, vs', rfl, ⟨?_, Hs.out, by rw [← outs_pop]; exact HI.out.out, HI.out.inv, HI.out.bel, HI.out.own1, by have := HI.out.bd; rw [left_pop] at this; omega, HI.out.sz⟩⟩
          have e := Hpop.out
          simpa using e
      | cons x y =>
        obtain ⟨v, vs', g, o, c, a0, a1, a2, a3, a4, a5, rfl, rfl, hyc, hcm, hg, hsix, hlx, hs, hrest⟩ := ItS.head hI.out (by have := HW.out.size; have := Hb0.out.size; omega) Hh.out
        have hown1 := hI.out.own
        rw [List.reverse_cons, List.length_cons] at hown1
        have hlen := Stk.length hs
        obtain ⟨gs, cap, rfl⟩ := ownsRow_succ hown1
        have hgs : W.heap.size + 1 ≤ gs := (hown1.lt gs rfl).1
        have hc : wr.cell? ⟨gs, st.length, none⟩ = some (.slice (some ⟨g, o, none⟩) (y.length + 1) (c + 1)) := by
          rw [hown1.cellAt st.length (by omega), List.getElem?_append_right (by rw [List.length_reverse, hlen]; exact Nat.le_refl _), List.length_reverse, hlen]
          simp
        have hcap : st.length + 1 ≤ cap := by
          rcases hown1.2 with ⟨h, _⟩ | ⟨g', cap', cur, h, _, _, h1, _⟩
          · cases h
          · injection h with _ _ h
            omega
        obtain ⟨A5, c5, rfl, _, _, _, _, _, _⟩ := (LiesS.kids hlx).sl
        have HI := Lib.hid hI.out
        have Hs := Lib.hid hs
        have Hrest := Lib.hid hrest
        have Hlx := Lib.hid hlx
        have Hown1 := Lib.hid hown1
        have Hsix := Lib.hid hsix
        have Hg := Lib.hid hg
        have Hbd : Hid ((st.length : Int) + 2 ≤ 4000000000000) := by
          unfold Hid
          have hsz := Hsz.out
          have h1 := leftS_length ((x :: y) :: st)
          have h2 := HI.out.bd
          rw [List.length_cons] at h1
          rw [left_step] at h1 h2
          have h3 := leftS_length (x.kids :: y :: st)
          rw [List.length_cons, List.length_cons] at h3
          omega
        obtain ⟨fn, tmps, assign, body, hy, hR⟩ := HY.out p (x, st.length + 1) #[.agg #[a0, a1, a2, a3, a4, .slice A5 x.kids.length c5], .int .i64 ((st.length + 1 : Nat) : Int)] wr HI.out.inv (by
          rw [← HI.out.out, outs_step]
          exact ⟨outs (x.kids :: y :: st), by simp⟩) ⟨_, rfl, Hlx.out⟩
        have HR := Lib.hid hR
        obtain ⟨b0, b1, b2, b3, b4, b5⟩ := hsix
        have hbd : (st.length : Int) + 1 ≤ 9223372036854775807 := by have := Hbd.out; omega
        have e1 : ((st.length + 1 : Nat) : Int) = (st.length : Int) + 1 := by omega
        rw [e1] at hy
        have Hcm := Lib.hid hcm
        clear hI hs hown1 hrest hlx hR hg e1 hcm
        have hne : (((y.length : Int) + 1) == 0) = false := by
          have : ((y.length : Int) + 1) ≠ 0 := by omega
          simpa using this
        gi_wp2
        refine ⟨fun h => (by cases h), HR.out.mono ?_⟩
        rintro e W3 (⟨rfl, hJ3, hk3⟩ | ⟨rfl, hJx3⟩)
        · have hXn : ∀ b, (W.heap.size ≤ b ∨ b < w0.heap.size) → b ∉ X := fun b hb hm => by
            have h := HX.out b hm
            rcases hb with hb | hb
            · omega
            · exact h.1 (.inl hb)
          have hown3 := own_row_but Hown1.out hk3 (fun b hb => hXn b (.inl (by omega)))
          have hg := Hg.out
          have hgw : g < wr.heap.size := by
            have h1 := HI.out.bel.size
            have h2 := HI.out.sz
            omega
          have hgs' : g ≠ gs := by
            have h1 := HW.out.size
            have h2 := Hb0.out.size
            omega
          have Hsix3 := Lib.hid (Hsix.out.block (hk3.block g hgw (hXn g (by omega))))
          have hfr := hown3.frozenAt st.length
          have hc3 : W3.cell? ⟨gs, st.length, none⟩ = some (.slice (some ⟨g, o, none⟩) (y.length + 1) (c + 1)) := by
            have hc1 := Hown1.out.cellAt st.length (by omega)
            rw [hown3.cellAt st.length (by omega), ← hc1, hc]
          obtain ⟨sv, hsv⟩ : ∃ sv, sv = Value.slice (if c = 0 then some ⟨g, o, none⟩ else some ⟨g, o + 6, none⟩) y.length c := ⟨_, rfl⟩
          obtain ⟨W4, hW4⟩ : ∃ W4, W4 = W3.setCell ⟨gs, st.length, none⟩ sv := ⟨_, rfl⟩
          have hown4 : W4.ownsRow (W.heap.size + 1) 25 1 (.slice (some ⟨gs, 0, none⟩) (st.length + 1) cap) (st.length + 1) (vs'.reverse ++ [sv]) := by
            have h := (hown3.stored st.length sv).1
            rw [List.set_append_right _ _ (by rw [List.length_reverse, hlen]; exact Nat.le_refl _), List.length_reverse, hlen, Nat.sub_self] at h
            rw [hW4]
            exact h
          have hk4 : KeptBut (gs :: X) wr W4 := by
            refine (hk3.mono (fun b hb => List.mem_cons_of_mem _ hb)).trans ?_
            rw [hW4]
            exact ⟨rfl, rfl, rfl, by simp, fun b _ hb => Below.heap_setCell _ _ _ _ (fun e => hb (by rw [e]; exact List.mem_cons_self))⟩
          have hbel4 : Below (W.heap.size + 1) W3 W4 := by
            rw [hW4]
            exact (Below.refl _ _).setCell (p := ⟨gs, st.length, none⟩) hgs _
          have hsix4 : Six W4 g o a0 a1 a2 a3 a4 (.slice A5 x.kids.length c5) := Hsix3.out.block (by rw [hW4]; exact Below.heap_setCell _ _ _ _ hgs')
          obtain ⟨d0, d1, d2, d3, d4, d5⟩ := hsix4
          obtain ⟨_, _, _, _, _, d6⟩ := Hsix3.out
          have hs4 : W4.heap.size = W3.heap.size := by rw [hW4]; simp
          have hs3 := hk3.size
          obtain ⟨i0, hi, hz0, hz1, hz2⟩ := info_parts TrydinfoSeq
          have Hown4 := Lib.hid hown4
          have Hk3 := Lib.hid hk3
          have Hk4 := Lib.hid hk4
          have Hbel4 := Lib.hid hbel4
          have HJ3 := Lib.hid hJ3
          have Hsv := Lib.hid hsv
          have HW4 := Lib.hid hW4
          have HC5 := Lib.hid (by have h := cell_one_new W4 (.slice A5 x.kids.length c5) 25; rw [hs4] at h; exact h)
          have Hs4 := Lib.hid (show W.heap.size + 1 ≤ W4.heap.size by have := HI.out.sz; omega)
          clear hown3 hk3 hJ3 b0 b1 b2 b3 b4 b5 hc hy HR hXn hown4 hk4 hbel4 hsv hW4 d0 d1 d2 d3 d4 d5 hs4 hs3 hg
          gi_wp2_with (gi_at_builtin; rw [← Hsv.out, ← HW4.out]; refine wpListIn_append_own _ rfl _ _ 94 rfl (W.heap.size + 1) 25 i0 (.slice none 0 0) 1 24 Tryd.underlying94 hi hz0 hz1 hz2 rfl (by decide) _ _ _ rfl (Hown4.out.alloc _) _ 1 1 [.slice A5 x.kids.length c5] rfl rfl HC5.out (by simp [Value.oneCell']) (by have := Hbd.out; simp [maxLen]; omega) (by have := Hbd.out; omega) (by have := Hs4.out; simp; omega) ?_; intro v' W6 hown6 hgrow6 _; obtain ⟨g6, cap6, rfl⟩ := ownsRow_succ hown6)
          have hbel6 : Below (W.heap.size + 1) W3 W6 := (Hbel4.out.alloc Hs4.out _).grown hgrow6 (by have := Hs4.out; simp; omega) (fun b e => by cases e; exact hgs)
          go_roundg (leftS (x.kids :: y :: st))
          case measure => rw [left_step]; omega
          case rel =>
            have hXw : ∀ b ∈ X, w0.heap.size ≤ b := fun b hb => by
              have h := (HX.out b hb).1
              omega
            have hXn : W.heap.size ∉ X := fun hm => by have := (HX.out _ hm).2; omega
            have hb3 := KeptBut.below HI.out.bel Hk3.out HI.out.bel.size hXw
            refine ⟨p ++ [(x, st.length + 1)], x.kids :: y :: st, .slice A5 x.kids.length c5 :: sv :: vs', rfl, ⟨?_, ⟨.inl ((LiesS.kids Hlx.out).deeper (Nat.le_succ f)), .inl ?_, Hs.out⟩, ?_, HJ.out _ _ _ HJ3.out (hbel6.mono (Nat.le_succ _)), hb3.trans (hbel6.mono ?_), ?_, ?_, ?_⟩⟩
            · simpa using hown6
            · rw [Hsv.out]
              refine Hrest.out _ c hyc (Nat.le_refl _) (fun hy => ?_)
              rw [if_neg (by omega)]
            · rw [← HI.out.out, outs_step]
              simp
            · have h1 := HW.out.size
              have h2 := Hb0.out.size
              omega
            · rw [hbel6.block _ (by omega), Hk3.out.block _ (by have := HI.out.sz; omega) hXn]
              exact HI.out.own1
            · have := HI.out.bd
              rw [left_step] at this
              omega
            · have h1 := HI.out.sz
              have h2 := Hk3.out.size
              have h3 := hbel6.size
              omega
        · gi_wp2
          refine bodyPost_ret (results_none rfl _ _ _) rfl ?_
          refine ⟨⟨_, rfl⟩, .inr ⟨_, ?_, hJx3⟩⟩
          rw [← HI.out.out, outs_step]
          exact ⟨outs (x.kids :: y :: st), by simp⟩
end Go.Proofs.YtmldigfghiofkaaDoor.tree
