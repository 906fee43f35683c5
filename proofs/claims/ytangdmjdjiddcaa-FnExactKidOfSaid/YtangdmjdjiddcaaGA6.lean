/- Merged: CofTreeI TrCopyI OpenTree. -/
import Derived.Test.YtangdmjdjiddcaaGA5
import Derived.Test.YtangdmjdjiddcaaGA4
import Derived.Test.YtangdmjdjiddcaaRows
import Derived.ProofKit
import Derived.OpenShut
import Derived.Deep.LoopGhost
import Derived.Deep.WholeRow
import Derived.WalkMore
import Derived.Test.YtangdmjdjiddcaaGA2
import Derived.ChangeSame
import Derived.Deep.Slices
import Derived.Deep.Strs
namespace Go.Proofs.Ytangdmjdjiddcaa.tree
open Go.ChangeShapes Go.WideShapes Go.ChangeAt Go.RowKit
set_option linter.unusedVariables false

set_option maxRecDepth 100000 in
theorem impl_cofTree (A : Option Addr) (n c : Nat) (xs : List Value) (w : World) (hc1 : n ≤ c) (hc2 : c ≤ maxLen) (hr : RdN w A n 6 xs) (hone : ∀ u ∈ xs, u.oneCell' = true) (hn : n ≤ 1048576) :
    Calls Try.prog 30 #[.slice A n c] w fun e w' => ∃ g c', e = .returned (.slice (some ⟨g, 0, none⟩) n c') ∧ w'.ownsRow w.heap.size 31 6 (.slice (some ⟨g, 0, none⟩) n c') n xs ∧ Below w.heap.size w w' := by
  unfold maxLen at hc2
  obtain ⟨i0, hi, hz0, hz1, hz2⟩ := info_parts TryinfoTree'
  have Hr := Lib.hid hr
  have Hone := Lib.hid hone
  have Hlit : Hid ((w.alloc (.cells #[] 31)).ownsRow w.heap.size 31 6 (.slice (some ⟨w.heap.size, 0, none⟩) 0 0) 0 []) :=
    World.ownsRow_lit w #[] 0 (Nat.le_refl _) (by simp [maxLen]) rfl
  have Hb := Lib.hid (fun o => (Below.refl w.heap.size w).alloc (Nat.le_refl _) o)
  have hn2 := Lib.hid hn
  clear hn hr hone
  go_enter Try.func30, Try.ntmps30
  go_wp2_with (first | (at_builtin; refine wpList_append_rdN rfl (.tmp 3) (.tmp 4) 29 rfl w.heap.size 31 i0 _ 6 88 Try.underlying29 hi hz0 hz1 hz2 rfl (by decide) _ 0 [] rfl Hlit.out A n c xs rfl (Hr.out.below (Hb.out _)) Hone.out (by have := hn2.out; unfold maxLen; omega) (by have := hn2.out; omega) (by simp) ?_; intro v1 w1 o1 o2 o3) | fail)
  try rw [Nat.zero_add, List.nil_append] at o1
  have hbel : Below w.heap.size w w1 := (Hb.out _).grown o2 (by simp) (fun q hq => (Hlit.out.lt q hq).1)
  obtain ⟨x, hx⟩ : ∃ x, v1.ownBlock = some x := by
    rcases o3 with e | e
    · exact ⟨_, e.trans rfl⟩
    · exact ⟨_, e⟩
  obtain ⟨c1, rfl, _⟩ := own_some o1 hx
  have O := Lib.hid (show ∃ g c', Ending.returned (.slice (some ⟨x, 0, none⟩) n c1) = .returned (.slice (some ⟨g, 0, none⟩) n c') ∧ w1.ownsRow w.heap.size 31 6 (.slice (some ⟨g, 0, none⟩) n c') n xs ∧ Below w.heap.size w w1 from ⟨x, c1, rfl, o1, hbel⟩)
  clear o1 o2 o3 hx hbel Hlit Hb Hr
  go_wp2_with fail
  go_ret
  exact O.out
end Go.Proofs.Ytangdmjdjiddcaa.tree
namespace Go.Proofs.Ytangdmjdjiddcaa.tree
open Go.ChangeShapes Go.WideShapes Go.ChangeAt Go.RowKit
set_option linter.unusedVariables false

theorem TryinfoPtr : (Try.prog.info? 47).map (fun i => (i.zero, i.size, i.bytes)) = some (some (.pointer none), 1, 8) := by kernel_rfl
def zr : Array Value := #[.int .i64 0, .bool false, .int .i64 0, .string ⟨#[]⟩, .slice none 0 0, .slice none 0 0]
theorem depth_le_lies : ∀ (f : Nat) (t : T) (w : World) (vs : List Value), LiesS w f vs (row t) → depth t ≤ f
  | 0, t, w, vs, h => by
    obtain ⟨k, fl, n, s, ks, kids⟩ := t
    obtain ⟨_, _, _, _, _, _, _, _, _, _, _, _, _, _, f', hf, _⟩ := open_tree h
    omega
  | f + 1, t, w, vs, h => by
    obtain ⟨k, fl, n, s, ks, kids⟩ := t
    obtain ⟨A1, c1, A2, c2, rfl, _, _, _, _, _, _, _, _, _, f', hf, hk⟩ := open_tree h
    obtain rfl : f = f' := by omega
    rw [depth]
    have : ∀ l : List T, (∀ x ∈ l, depth x ≤ f) → depths l ≤ f := by
      intro l
      induction l with
      | nil => intro _; simp [depths]
      | cons a r ih =>
        intro h
        rw [depths]
        have h1 := h a List.mem_cons_self
        have h2 := ih (fun x hx => h x (List.mem_cons_of_mem _ hx))
        omega
    have := this kids (fun x hx => by
      obtain ⟨i, hi, rfl⟩ := List.getElem_of_mem hx
      obtain ⟨g, o, rfl, _, hkid⟩ := hk (by omega)
      obtain ⟨u0, u1, u2, u3, u4, u5, _, hl⟩ := hkid i kids[i] (List.getElem?_eq_getElem hi)
      exact depth_le_lies f _ w _ hl)
    omega
/-- The stack's top: what it holds, popped. -/
theorem stack_top {w : World} {B n : Nat} {e : TypeId} {gs cap : Nat} {p : Value} {r : List Value} (hn : r.length = n) (h : w.ownsRow B e 1 (.slice (some ⟨gs, 0, none⟩) (n + 1) cap) (n + 1) ((p :: r).reverse)) :
    w.cell? ⟨gs, n, none⟩ = some p ∧ n + 1 ≤ cap ∧ w.ownsRow B e 1 (.slice (some ⟨gs, 0, none⟩) n cap) n r.reverse := by
  subst hn
  rw [List.reverse_cons] at h
  refine ⟨?_, ?_, ownsRow_pop (by rw [List.length_reverse]; omega) h⟩
  · rw [h.cellAt r.length (by omega), List.getElem?_append_right (by rw [List.length_reverse]; exact Nat.le_refl _), List.length_reverse]
    simp
  · rcases h.2 with ⟨h, _⟩ | ⟨g', cap', cur, h, _, _, h1, _⟩
    · cases h
    · injection h with _ _ h
      omega

set_option maxRecDepth 100000 in
set_option maxHeartbeats 16000000 in
theorem impl_copy (f : Nat) (t : T) (vs : List Value) (w : World) (h : LiesS w f vs (row t)) (hsz : weight t ≤ 1048576) :
    Calls Try.prog 21 #[.agg vs.toArray] w fun e w' => TreeOut' w.heap.size (f + 2) t e w' ∧ Below w.heap.size w w' := by
  have hsz2 : size t ≤ 1048577 := by have := size_le_weight t; omega
  have hdep := depth_le_lies f t w vs h
  obtain ⟨u0, u1, u2, u3, u4, u5, rfl⟩ := six_of (h.1.trans (row_length t))
  have hone := LiesS.ones h
  obtain ⟨i0, hi, hz0, hz1, hz2⟩ := info_parts TryinfoStr'
  obtain ⟨i1, hi', hy0, hy1, hy2⟩ := info_parts TryinfoTree'
  obtain ⟨i2, hi'', hx0, hx1, hx2⟩ := info_parts TryinfoPtr
  -- the worlds ahead of the loop
  obtain ⟨wa, hwa⟩ : ∃ wa, wa = (w.alloc (.cells #[u0, u1, u2, u3, u4, u5] 31)).alloc (.cells #[.int .i64 0, .bool false, .int .i64 0, .string ⟨#[]⟩, .slice none 0 0, .slice none 0 0] 31) := ⟨_, rfl⟩
  obtain ⟨w1, hw1⟩ : ∃ w1, w1 = wa.alloc (.cells #[.pointer (some ⟨w.heap.size, 0, none⟩)] 47) := ⟨_, rfl⟩
  have hsa : wa.heap.size = w.heap.size + 2 := by rw [hwa]; simp
  have hs1 : w1.heap.size = w.heap.size + 3 := by rw [hw1]; simp [hsa]
  have hb1 : Below w.heap.size w w1 := by rw [hw1, hwa]; exact (((Below.refl _ w).alloc (Nat.le_refl _) _).alloc (by simp) _).alloc (by simp; omega) _
  have h10 : w1.heap[w.heap.size]? = some (.cells #[u0, u1, u2, u3, u4, u5] 31 (0, 0)) := by
    rw [hw1, Below.heap_alloc _ _ _ (by omega), hwa, Below.heap_alloc _ _ _ (by simp)]
    exact heap_alloc_new w _
  have h11 : w1.heap[w.heap.size + 1]? = some (.cells zr 31 (0, 0)) := by
    rw [hw1, Below.heap_alloc _ _ _ (by omega), hwa]
    have h := heap_alloc_new (w.alloc (.cells #[u0, u1, u2, u3, u4, u5] 31)) (.cells zr 31)
    rw [World.size_alloc] at h
    exact h
  have hown : w1.ownsRow (w.heap.size + 2) 47 1 (.slice (some ⟨w.heap.size + 1 + 1, 0, none⟩) 1 1) 1 [.pointer (some ⟨w.heap.size, 0, none⟩)] := by
    have h := World.ownsRow_lit (size := 1) (base := w.heap.size + 2) (e := 47) wa #[.pointer (some ⟨w.heap.size, 0, none⟩)] 1 (by omega) (by simp [maxLen]) rfl
    rw [hsa] at h
    rw [hw1]
    exact h
  have HS := Lib.hid (show CpS w w1 f t (some (w.heap.size + 1 + 1)) 47 31 zr (.slice (some ⟨w.heap.size + 1 + 1, 0, none⟩) 1 1) w1 [(w.heap.size, 0, t)] from
    ⟨hown, fun it hit => by
      obtain rfl := List.mem_singleton.1 hit
      refine ⟨Nat.le_refl _, by show w.heap.size ≠ _; omega, by simp [Value.ownBlock]; omega, _, _, _, h10, rfl, fun j u hu => ?_, h⟩
      simpa using hu, List.pairwise_singleton _ _, hb1, h11, by simp [sizesI], by omega, fun it hit => (by obtain rfl := List.mem_singleton.1 hit; exact hsz), fun w' h => h⟩)
  have Hh := Lib.hid h
  have H10 := Lib.hid h10
  have Hs1 := Lib.hid hs1
  have Hdep := Lib.hid hdep
  have Hsz2 := Lib.hid hsz2
  have Hsz := Lib.hid hsz
  have Hwa := Lib.hid hwa
  have Hw1 := Lib.hid hw1
  clear h hdep hsz2 hsz hwa hw1 hsa hs1 hb1 h10 h11 hown
  go_enter Try.func21, Try.ntmps21
  go_wp2_with fail
  rw [← Hwa.out, ← Hw1.out]
  go_loopg [3] (sizesI [(w.heap.size, 0, t)]) (fun kk r wr => ∃ (todo : List It), kk = sizesI todo ∧ Hid (CpS w w1 f t (some (w.heap.size + 1 + 1)) 47 31 zr r wr todo))
  case atStart => exact ⟨_, rfl, HS.out⟩
  case round =>
    obtain ⟨todo, rfl, hC⟩ := hrel
    cases todo with
    | nil =>
      obtain ⟨A, c, rfl⟩ := own_is_slice hC.out.own
      obtain ⟨hfr, F, hfill, hnd, hF⟩ := hC.out.wand wr (Fin.nil _ _ _)
      obtain ⟨xs, F1, F2, rfl, ⟨hx6, hx⟩, ho, rfl⟩ := hfill
      obtain ⟨x0, x1, x2, x3, x4, x5, rfl⟩ := six_of hx6
      rw [List.append_nil] at hnd
      obtain ⟨cur, hcur, hcs, _⟩ := hfr.part w.heap.size _ _ _ H10.out (by simp; omega)
      have hcur' : wr.heap[w.heap.size]? = some (.cells #[x0, x1, x2, x3, x4, x5] 31 (0, 0)) := by
        rw [hcur]
        congr 2
        have hj : ∀ j u, [x0, x1, x2, x3, x4, x5][j]? = some u → cur[j]? = some u := fun j u hu => by
          have h := hx j u hu
          simp only [Nat.zero_add] at h
          rw [cell_of_row wr w.heap.size j cur _ (0, 0) hcur] at h
          exact h
        apply Array.ext_getElem?
        intro j
        by_cases h6 : j < 6
        · have h7 : j < [x0, x1, x2, x3, x4, x5].length := h6
          have h8 := hj j _ (List.getElem?_eq_getElem h7)
          rw [h8]
          simp
        · rw [Array.getElem?_eq_none (by rw [hcs]; show 6 ≤ j; omega), Array.getElem?_eq_none (by show 6 ≤ j; omega)]
      have hone6 := ho.one
      have HC := Lib.hid hC.out
      have Ho := Lib.hid ho
      have hres := hC.out.res
      have Hcur := Lib.hid hcur'
      have HF := Lib.hid (show ∀ x ∈ F1, w.heap.size + 2 ≤ x from fun x hx => by have h := hF x (List.mem_append.2 (.inl hx)); have h2 := Hs1.out; omega)
      clear hC hfr hF hx hcur hcs
      go_wp2_with (first | (refine wpList_load_row rfl 31 _ rfl w.heap.size rfl 31 #[x0, x1, x2, x3, x4, x5] (0, 0) _ hcur' Try.underlying31 rfl tree_size' ?_) | (refine wpList_store_row rfl 31 _ _ rfl (w.heap.size + 1) #[x0, x1, x2, x3, x4, x5] rfl rfl 31 _ hres tree_size' rfl hone6 ?_) | fail)
      have ho3 : OwnS (wr.setRow (w.heap.size + 1) #[x0, x1, x2, x3, x4, x5]) w.heap.size (f + 2) [x0, x1, x2, x3, x4, x5] (row t) F1 := (OwnS.kept (fun x hx => by
        have h3 := HF.out x hx
        simp only [World.setRow, Array.getElem?_modify]
        rw [if_neg (by omega)]) Ho.out).deeper (by have := Hdep.out; show depth t + 1 ≤ _; omega)
      refine bodyPost_ret (v := .agg #[x0, x1, x2, x3, x4, x5]) ?_ rfl ⟨⟨_, F1, rfl, ho3, hnd⟩, setRow_below HC.out.bel (by omega) _⟩
      exact results_cell_row rfl _ _ (w.heap.size + 1) _ _ (0, 0) _ rfl (setRow_at HC.out.res) Try.underlying31 rfl tree_size'
    | cons it todo =>
      obtain ⟨g, o, ⟨k, fl, n, s, ks, kids⟩⟩ := it
      obtain ⟨gs, cap, rfl⟩ := ownsRow_succ hC.out.own
      obtain ⟨hn1, hn2, hn3, cur, e, us, hg, hus6, hus, hl⟩ := hC.out.it _ List.mem_cons_self
      obtain ⟨A1, c1, A2, c2, rfl, wk, wn, ws, hc1, hc2, hr, wks, hc3, hc4, f', hf', hk⟩ := open_tree hl
      obtain ⟨A', c', xs, hA', _, _, hrk, hxs⟩ := lies_cells (hl.2 5 _ _ rfl rfl)
      obtain ⟨rfl, rfl⟩ : A2 = A' ∧ c2 = c' := by injection hA' with e1 _ e3; exact ⟨e1, e3⟩
      obtain ⟨hc', hcap, hpop⟩ := stack_top (by simp) hC.out.own
      have hc : wr.cell? ⟨gs, todo.length, none⟩ = some (.pointer (some ⟨g, o, none⟩)) := hc'
      clear hc'
      have hglt := heap_lt hg
      have hcg : ∀ j u, [Value.int .i64 k, .bool fl, .int .i64 n, .string s, .slice A1 ks.length c1, .slice A2 kids.length c2][j]? = some u → wr.cell? ⟨g, o + j, none⟩ = some u := fun j u hu => by
        rw [cell_of_row wr g _ cur e (0, 0) hg]
        exact hus j u hu
      have p4 := hcg 4 _ rfl
      have hkl : ks.length ≤ 1048576 ∧ kids.length ≤ 1048576 := by
        have h := hC.out.wt _ List.mem_cons_self
        simp only [weight] at h
        omega
      have Hkl := Lib.hid hkl
      clear hkl
      have hbd : (todo.length : Int) + 1 ≤ 9223372036854775807 := by
        have h1 := sizesI_length ((g, o, T.mk k fl n s ks kids) :: todo)
        have h2 := hC.out.bd
        have h3 := Hsz2.out
        rw [List.length_cons] at h1
        omega
      have e1 : ((todo.length + 1 : Nat) : Int) - 1 = (todo.length : Int) := by omega
      have HKs := Lib.hid (impl_cofStr A1 ks.length c1 (scells ks) wr hc1 hc2 (hr.below hC.out.bel) (strs_one ks) (by have := Hkl.out; omega))
      have Hcc := Lib.hid (And.intro hc3 hc4)
      have HC := Lib.hid hC.out
      have Hg := Lib.hid hg
      have Hus := Lib.hid hus
      have Hcg := Lib.hid hcg
      have Hw := Lib.hid (show (Lit.int .i64 k).wf = true ∧ (Lit.int .i64 n).wf = true ∧ s.size ≤ maxLen ∧ (∀ x ∈ ks, x.size ≤ maxLen) from ⟨wk, wn, ws, wks⟩)
      have Hrk := Lib.hid hrk
      have Hxs := Lib.hid hxs
      have Hpop := Lib.hid hpop
      have Hn3 := Lib.hid hn3
      clear hC hg hus hcg hrk hxs hpop hn3 hr hl hk hf' hA' wk wn ws wks hus6 hc1 hc2 hc3 hc4
      go_wp2_with fail
      refine HKs.out.mono ?_
      rintro e2 W2 ⟨gK, ck, rfl, hks2, hb2⟩
      obtain ⟨Ak, hAk⟩ : ∃ Ak, Ak = (some ⟨gK, 0, none⟩ : Option Addr) := ⟨_, rfl⟩
      rw [← hAk] at hks2 ⊢
      clear HKs hAk
      have hg2 := (hb2.block g hglt).trans Hg.out
      have p4 : W2.cell? ⟨g, o + 4, none⟩ = some (.slice A1 ks.length c1) := (World.cell?_of_block (hb2.block g hglt)).trans (Hcg.out 4 _ rfl)
      have f4 := frozen_of_row W2 g (o + 4) cur e hg2
      obtain ⟨W3, hW3⟩ : ∃ W3, W3 = W2.setCell ⟨g, o + 4, none⟩ (.slice Ak ks.length ck) := ⟨_, rfl⟩
      have hs3 : W3.heap.size = W2.heap.size := by rw [hW3]; simp
      have hg3 : W3.heap[g]? = some (.cells (cur.setIfInBounds (o + 4) (.slice Ak ks.length ck)) e (0, 0)) := by rw [hW3]; exact heap_setCell_same _ _ _ _ _ _ hg2
      have p5 : W3.cell? ⟨g, o + 5, none⟩ = some (.slice A2 kids.length c2) := by
        rw [cell_of_row W3 g _ _ e (0, 0) hg3, Array.getElem?_setIfInBounds_ne (by omega)]
        exact Hus.out 5 _ rfl
      have hbw3 : Below w.heap.size w W3 := by
        rw [hW3]
        exact (HC.out.bel.trans (hb2.mono HC.out.bel.size)).setCell (p := ⟨g, o + 4, none⟩) hn1 _
      have HKt := Lib.hid (impl_cofTree A2 kids.length c2 xs W3 Hcc.out.1 Hcc.out.2 (Hrk.out.below hbw3) (LiesS.ones Hxs.out) (by have := Hkl.out; omega))
      have Hs3 := Lib.hid hs3
      have Hks2 := Lib.hid hks2
      have Hb2 := Lib.hid hb2
      have HW3 := Lib.hid hW3
      have Hg3 := Lib.hid hg3
      have p5' := p5
      rw [hW3] at p5
      clear hb2 hg2 hW3 hg3 hbw3 hks2 hs3 hc
      go_wp2_with fail
      rw [← HW3.out]
      refine HKt.out.mono ?_
      rintro e2 W5 ⟨gT, c5, rfl, hkids5, hb5⟩
      obtain ⟨A5, hA5⟩ : ∃ A5, A5 = (some ⟨gT, 0, none⟩ : Option Addr) := ⟨_, rfl⟩
      rw [← hA5] at hkids5 ⊢
      clear HKt hA5
      have hg5 := (hb5.block g (heap_lt Hg3.out)).trans Hg3.out
      have p5 : W5.cell? ⟨g, o + 5, none⟩ = some (.slice A2 kids.length c2) := by
        rw [cell_of_row W5 g _ _ e (0, 0) hg5, Array.getElem?_setIfInBounds_ne (by omega)]
        exact Hus.out 5 _ rfl
      have f5 := frozen_of_row W5 g (o + 5) _ e hg5
      obtain ⟨W6, hW6⟩ : ∃ W6, W6 = W5.setCell ⟨g, o + 5, none⟩ (.slice A5 kids.length c5) := ⟨_, rfl⟩
      have hg6 : W6.heap[g]? = some (.cells ((cur.setIfInBounds (o + 4) (.slice Ak ks.length ck)).setIfInBounds (o + 5) (.slice A5 kids.length c5)) e (0, 0)) := by rw [hW6]; exact heap_setCell_same _ _ _ _ _ _ hg5
      have ho5 : o + 5 < cur.size := (Array.getElem?_eq_some_iff.1 (Hus.out 5 _ rfl)).1
      have q5 : W6.cell? ⟨g, o + 5, none⟩ = some (.slice A5 kids.length c5) := by
        rw [cell_of_row W6 g _ _ e (0, 0) hg6, Array.getElem?_setIfInBounds_self_of_lt (by simp; omega)]
      obtain ⟨gk, hgk, hgk0⟩ : ∃ gk, (∀ b, (Value.slice A5 kids.length c5).ownBlock = some b → b = gk) ∧ (kids ≠ [] → A5 = some ⟨gk, 0, none⟩) := by
        rcases hkids5.2 with ⟨h1, h2⟩ | ⟨b, cap', c', h1, _⟩
        · injection h1 with e1 _ _
          subst e1
          exact ⟨0, fun b hb => (by cases hb), fun hne => absurd (List.eq_nil_of_length_eq_zero h2) hne⟩
        · injection h1 with e1 _ _
          subst e1
          exact ⟨b, fun b' hb => (by simpa [Value.ownBlock] using hb.symm), fun _ => rfl⟩
      have hin : InS w W6 gs gk kids todo 47 0 (.slice (some ⟨gs, 0, none⟩) todo.length cap) W6 := by
        refine ⟨?_, rfl, rfl, rfl, Nat.le_refl _, fun _ _ _ => rfl, .inl rfl⟩
        have hlt := (Hpop.out.lt gs rfl).2
        have hgsg : gs ≠ g := fun e => Hn3.out (by rw [e]; rfl)
        have hkp : W6.heap[gs]? = wr.heap[gs]? := by
          rw [hW6, Below.heap_setCell _ _ _ _ hgsg, hb5.block gs (by have := Hs3.out; have := Hb2.out.size; omega), HW3.out, Below.heap_setCell _ _ _ _ hgsg, Hb2.out.block gs hlt]
        rw [Nat.zero_add]
        refine ⟨Hpop.out.1, ?_⟩
        rcases Hpop.out.2 with ⟨h1, _⟩ | ⟨b, cap', c', h1, h2, h3, h4⟩
        · cases h1
        · obtain rfl : gs = b := by injection h1 with e1; injection e1 with e1; injection e1
          exact .inr ⟨gs, cap', c', h1, h2, hkp.trans h3, h4⟩
      have HW6 := Lib.hid hW6
      have Hg6 := Lib.hid hg6
      have Hin := Lib.hid hin
      have Hb5 := Lib.hid hb5
      have Hkids5 := Lib.hid hkids5
      have Hgk := Lib.hid hgk
      have Hgk0 := Lib.hid hgk0
      have Hgs6 := Lib.hid (show g < W6.heap.size ∧ g ≠ gs from ⟨heap_lt hg6, fun e => Hn3.out (by rw [e]; rfl)⟩)
      have q5' := q5
      rw [hW6] at q5
      clear hg5 hg6 hin hW6 hb5 hkids5 hgk hgk0 ho5
      go_wp2_with fail
      rw [← HW6.out]
      go_loopw [3, 42] (fun r i wD => ∃ (j : Nat), j ≤ kids.length ∧ i = .int .i64 j ∧ Hid (InS w W6 gs gk kids todo 47 j r wD)) (fun _ i _ => kids.length - (intOf i).toNat)
      case atStart => exact ⟨0, Nat.zero_le _, rfl, Hin.out⟩
      case round =>
        obtain ⟨j, hj, rfl, hin⟩ := hrel
        have hD5 : wr.cell? ⟨g, o + 5, none⟩ = some (.slice A5 kids.length c5) := (World.cell?_of_block (hin.out.keep g Hgs6.out.1 Hgs6.out.2)).trans q5'
        obtain ⟨Ar, cr, rfl⟩ := own_is_slice hin.out.own
        by_cases hlt : j < kids.length
        · have hne : kids ≠ [] := fun e => by rw [e] at hlt; simp at hlt
          obtain rfl := Hgk0.out hne
          obtain ⟨W7, hW7⟩ : ∃ W7, W7 = wr.alloc (.cells #[.pointer (some ⟨gk, j * 6, none⟩)] 47) := ⟨_, rfl⟩
          have hb7 : Below wr.heap.size wr W7 := by rw [hW7]; exact (Below.refl _ _).alloc (Nat.le_refl _) _
          have hown7 := own_below' hin.out.own hb7
          have hrd7 : Rd W7 (some ⟨wr.heap.size, 0, none⟩) 1 [.pointer (some ⟨gk, j * 6, none⟩)] := by rw [hW7]; exact rd_one _ _ _
          have hsz7 : w.heap.size + 2 ≤ W7.heap.size := by
            have h1 := hin.out.size
            have h2 := hb7.size
            have h3 := HC.out.sz
            have h4 := Hgs6.out.1
            have h5 := Hpop.out.lt gs rfl
            have h6 := Hb2.out.size
            have h7 := Hs3.out
            have h8 := Hb5.out.size
            have h9 : W6.heap.size = W5.heap.size := by rw [HW6.out]; simp
            omega
          have hbd7 : (j : Int) + todo.length + 1 ≤ 2097154 := by
            have h1 := sizesI_length ((g, o, T.mk k fl n s ks kids) :: todo)
            have h2 := HC.out.bd
            have h3 := Hsz2.out
            have h4 := Hkl.out
            rw [List.length_cons] at h1
            omega
          have hjb : (j : Int) + 1 ≤ 9223372036854775807 := by omega
          have HW7 := Lib.hid hW7
          have Hin2 := Lib.hid hin.out
          have Hown7 := Lib.hid hown7
          have Hrd7 := Lib.hid hrd7
          have Hsz7 := Lib.hid hsz7
          have Hbd7 := Lib.hid hbd7
          clear hW7 hin hown7 hrd7 hsz7 hb7 hbd7
          go_wp2_with (first | (rw [← HW7.out]; refine wpList_append_rd rfl (.tmp 45) (.tmp 52) 48 rfl (w.heap.size + 2) 47 i2 (.pointer none) 8 Try.underlying48 hi'' hx0 hx1 hx2 rfl _ _ _ rfl Hown7.out _ 1 1 _ rfl Hrd7.out (by simp [Value.oneCell']) (by have := Hbd7.out; unfold maxLen; omega) (by have := Hbd7.out; omega) Hsz7.out ?_) | fail)
          intro r2 W8 hown8 hgr8 hat8
          obtain ⟨A8, c8, rfl⟩ := own_is_slice hown8
          have Hin8 := Lib.hid (in_step (o := .cells #[.pointer (some ⟨gk, j * 6, none⟩)] 47) Hin2.out (by simpa using hown8) (by rw [← HW7.out]; exact hgr8) (by rw [← HW7.out]; exact hat8))
          clear hown8 hgr8 hat8 Hown7 Hrd7 Hin2 HW7 hD5
          rw [show j + todo.length + 1 = j + 1 + todo.length by omega] at Hin8 ⊢
          go_wp2_with fail
          go_roundw
          case rel => exact ⟨j + 1, by omega, by go_num, Hin8.out⟩
          case measure => simp [intOf]; omega
        · obtain rfl : j = kids.length := by omega
          have HCn := Lib.hid (cp_step HC.out Hg.out Hus.out Hw.out.1 Hw.out.2.1 Hw.out.2.2.1 Hw.out.2.2.2 Hb2.out Hks2.out HW3.out Hb5.out Hkids5.out Hxs.out HW6.out Hgk.out (fun h => by rw [Hgk0.out h]; rfl) hin.out)
          clear hin hD5
          go_wp2_with fail
          go_roundg (sizesI (kidIts gk kids kids.length ++ todo))
          case measure =>
            rw [sizesI_append, sizesI_kids gk kids _ (Nat.le_refl _), List.take_of_length_le (Nat.le_refl _), sizesI]
            simp only [size]
            omega
          case rel => exact ⟨_, rfl, HCn.out⟩
end Go.Proofs.Ytangdmjdjiddcaa.tree
namespace Go.Proofs.Ytangdmjdjiddcaa.tree
open Go.ChangeShapes Go.WideShapes Go.ChangeAt Go.RowKit
set_option linter.unusedVariables false

theorem cells_tree : Try.prog.cellsOf 27 = 6 := by kernel_rfl
theorem cells_int : Try.prog.cellsOf 3 = 1 := by kernel_rfl
theorem cells_bool : Try.prog.cellsOf 4 = 1 := by kernel_rfl
theorem cells_string : Try.prog.cellsOf 9 = 1 := by kernel_rfl
theorem cells_keys : Try.prog.cellsOf 24 = 1 := by kernel_rfl
theorem cells_kids : Try.prog.cellsOf 25 = 1 := by kernel_rfl

section
variable {H : Type} {enc : TypeId × Value → H} {w : World} {base : Nat} {sp : Nat → Bool} {held : Bool}

/-- The cells of a row that reads. -/
theorem cells_head {a : Addr} {n : Nat} {cs : List Value} (h : w.cells? base (a.add 0) n = some cs) (hn : 0 < n) : a.spot = none ∧ a.block < w.heap.size := by
  obtain ⟨hb, hl, hc⟩ := World.cells?_some h
  have h0 := hc 0 hn
  rw [List.getElem?_eq_getElem (by omega)] at h0
  have e : (a.add 0).add 0 = a := by simp [Addr.add]
  rw [e] at h0
  exact ⟨World.cell?_spot h0, World.block_lt_of_cell? w _ h0⟩
theorem cells_at {g o : Nat} {i n : Nat} {cs : List Value} (h : w.cells? base ((⟨g, o, none⟩ : Addr).add i) n = some cs) : cs.length = n ∧ ∀ j u, cs[j]? = some u → w.cell? ⟨g, o + (i + j), none⟩ = some u := by
  obtain ⟨hb, hl, hc⟩ := World.cells?_some h
  refine ⟨hl, fun j u hu => ?_⟩
  have := hc j (by have := (List.getElem?_eq_some_iff.1 hu).1; omega)
  rw [Addr.add_lit, Addr.add_lit, Nat.add_assoc, hu] at this
  exact this
theorem flat_get {α : Type} {f : α → List C} {sz : Nat} (hf : ∀ a, (f a).length = sz) : ∀ (l : List α) (i j : Nat) (a : α), l[i]? = some a → j < sz → (l.flatMap f)[i * sz + j]? = (f a)[j]?
  | [], i, j, a, h, _ => by simp at h
  | x :: l, 0, j, a, h, hj => by
    simp at h
    subst h
    rw [List.flatMap_cons, List.getElem?_append_left (by rw [hf]; omega)]
    simp
  | x :: l, i + 1, j, a, h, hj => by
    rw [List.flatMap_cons, List.getElem?_append_right (by rw [hf, Nat.add_mul]; omega), hf, Nat.add_mul, show i * sz + 1 * sz + j - sz = i * sz + j by omega]
    exact flat_get hf l i j a (by simpa using h) hj
theorem flat_length {α : Type} {f : α → List C} {sz : Nat} (hf : ∀ a, (f a).length = sz) : ∀ l : List α, (l.flatMap f).length = l.length * sz
  | [] => by simp
  | x :: l => by rw [List.flatMap_cons, List.length_append, hf, flat_length hf l, List.length_cons, Nat.add_mul]; omega
theorem rows_flat : ∀ l : List T, rows l = l.flatMap row
  | [] => rfl
  | t :: r => by rw [rows, List.flatMap_cons, rows_flat r]

/-- A slice whose elements read. -/
theorem lies_slice {P : Program} {t e : TypeId} {sz fuel : Nat} {cs : List Value} {x : DataW H × List MemPlace} {α : Type} [Inhabited α] (f : α → List C) (ht : P.underlying t = some (.slice e)) (hsz : P.cellsOf e = sz) (hpos : 0 < sz) (hf : ∀ a, (f a).length = sz)
    (hel : ∀ n cs' y, n + 1 = fuel → DataW.trod enc P w base sp held n e cs' = some y → ∃ a, LiesS w n cs' (f a)) (h : DataW.trod enc P w base sp held fuel t cs = some x) : ∃ (v : Value) (l : List α), cs = [v] ∧ Lies w fuel v (.sl sz l.length (l.flatMap f)) := by
  rcases DataW.trod_slice ht h with ⟨rfl, _⟩ | ⟨a, len, cap, elems, rest, n, rfl, rfl, _, hb, hl, hm, hlen, hel2, _, _⟩
  · cases fuel with
    | zero => simp [DataW.trod] at h
    | succ n => exact ⟨_, [], rfl, none, 0, rfl, Nat.le_refl _, by simp [maxLen], by simp, fun hn => absurd hn (by simp)⟩
  · rw [hsz] at hel2
    have hone : ∀ i, i < len → ∃ p : List Value × α, w.cells? base (a.add (i * sz)) sz = some p.1 ∧ LiesS w n p.1 (f p.2) := fun i hi => by
      have h1 := hel2 i hi
      rw [List.getElem?_eq_getElem (by omega)] at h1
      obtain ⟨cs', h2, h3⟩ := Option.bind_eq_some_iff.1 h1
      obtain ⟨b, hb⟩ := hel n cs' _ rfl h3
      exact ⟨(cs', b), h2, hb⟩
    obtain ⟨q, hq⟩ := Go.Deep.choose_lt hone
    refine ⟨_, (List.range len).map (fun i => (q i).2), rfl, some a, cap, ?_, ?_, hm, ?_, fun hn => ?_⟩
    · simp
    · simpa using hl
    · rw [flat_length hf]
    · have hn' : 0 < len := by simpa using hn
      have hq0 := (hq 0 hn').1
      rw [Nat.zero_mul] at hq0
      obtain ⟨h1, h2⟩ := cells_head hq0 hpos
      obtain ⟨g, o, spt⟩ := a
      have hspt : spt = none := h1
      subst hspt
      refine ⟨g, o, rfl, h2, fun m d hd => ?_⟩
      have hm1 : m < len * sz := by
        have := (List.getElem?_eq_some_iff.1 hd).1
        rw [flat_length hf] at this
        simpa using this
      have hi : m / sz < len := Nat.div_lt_of_lt_mul (by rw [Nat.mul_comm]; exact hm1)
      have hj : m % sz < sz := Nat.mod_lt _ hpos
      have e : m / sz * sz + m % sz = m := by rw [Nat.mul_comm]; exact Nat.div_add_mod m sz
      rw [← e, flat_get hf _ (m / sz) (m % sz) (q (m / sz)).2 (by simp [hi]) hj] at hd
      obtain ⟨hl2, hcell⟩ := cells_at (hq (m / sz) hi).1
      have hu : (q (m / sz)).1[m % sz]? = some ((q (m / sz)).1[m % sz]'(by omega)) := List.getElem?_eq_getElem (by omega)
      refine ⟨_, ?_, (hq (m / sz) hi).2.2 (m % sz) _ d hu hd⟩
      have := hcell _ _ hu
      rw [e] at this
      exact this
theorem lies_keys {fuel : Nat} {cs : List Value} {x : DataW H × List MemPlace} (h : DataW.trod enc Try.prog w base sp held fuel 24 cs = some x) : ∃ (v : Value) (ks : List ByteArray), cs = [v] ∧ Lies w fuel v (.sl 1 ks.length (skeys ks)) := by
  obtain ⟨v, l, h1, h2⟩ := lies_slice (α := ByteArray) (fun s => [C.str s]) Try.underlying24 cells_string (by decide) (fun _ => rfl) (fun n cs' y _ hy => by
    obtain ⟨s, rfl, _, hs⟩ := DataW.trod_string Try.underlying9 hy
    cases n with
    | zero => simp [DataW.trod] at hy
    | succ n => exact ⟨s, LiesS.cons ⟨rfl, hs⟩ LiesS.nil⟩) h
  refine ⟨v, l, h1, ?_⟩
  have e : ∀ l : List ByteArray, l.flatMap (fun s => [C.str s]) = skeys l := fun l => by
    induction l with
    | nil => rfl
    | cons a r ih => rw [List.flatMap_cons, ih]; rfl
  rw [← e]
  exact h2
instance : Inhabited T := ⟨zero⟩
set_option maxRecDepth 100000 in
/-- A tree that reads. -/
theorem lies_tree : ∀ (fuel : Nat) (cs : List Value) (x : DataW H × List MemPlace), DataW.trod enc Try.prog w base sp held fuel 27 cs = some x → ∃ t, LiesS w fuel cs (row t) := by
  intro fuel
  induction fuel using Nat.strongRecOn with
  | ind fuel ih =>
    intro cs x h
    obtain ⟨xs, n, rfl, _, hl, hxl, hf⟩ := DataW.trod_struct Try.underlying27 h
    rw [cells_tree] at hl
    have hxl6 : xs.length = 6 := hxl
    obtain ⟨u0, u1, u2, u3, u4, u5, rfl⟩ := six_of hl
    obtain ⟨y0, y1, y2, y3, y4, y5, rfl⟩ := six_of hxl6
    have f0 := hf 0 _ rfl
    have f1 := hf 1 _ rfl
    have f2 := hf 2 _ rfl
    have f3 := hf 3 _ rfl
    have f4 := hf 4 _ rfl
    have f5 := hf 5 _ rfl
    simp only [cells_int, cells_bool, cells_string, cells_keys, cells_kids, List.drop_zero, List.drop_succ_cons, List.take_succ_cons, List.take_zero, List.getElem?_cons_zero, List.getElem?_cons_succ] at f0 f1 f2 f3 f4 f5
    obtain ⟨k, e0, _, w0⟩ := DataW.trod_int Try.underlying3 f0
    obtain ⟨b, e1, _⟩ := DataW.trod_bool Try.underlying4 f1
    obtain ⟨m, e2, _, w2⟩ := DataW.trod_int Try.underlying3 f2
    obtain ⟨s, e3, _, w3⟩ := DataW.trod_string Try.underlying9 f3
    obtain ⟨v4, ks, e4, l4⟩ := lies_keys f4
    obtain ⟨v5, kids, e5, l5⟩ := lies_slice (α := T) row Try.underlying25 cells_tree (by decide) row_length (fun n' cs' y hn hy => ih n' (by omega) cs' y hy) f5
    injection e0 with e0
    injection e1 with e1
    injection e2 with e2
    injection e3 with e3
    injection e4 with e4
    injection e5 with e5
    subst e0 e1 e2 e3 e4 e5
    refine ⟨.mk k b m s ks kids, ?_⟩
    rw [row, rows_flat]
    cases n with
    | zero => simp [DataW.trod] at f0
    | succ n =>
      have l0 : Lies w (n + 1) (.int .i64 k) (.int .i64 k) := ⟨rfl, w0⟩
      have l1 : Lies w (n + 1) (.bool b) (.bool b) := rfl
      have l2 : Lies w (n + 1) (.int .i64 m) (.int .i64 m) := ⟨rfl, w2⟩
      have l3 : Lies w (n + 1) (.string s) (.str s) := ⟨rfl, w3⟩
      exact (LiesS.cons l0 (LiesS.cons l1 (LiesS.cons l2 (LiesS.cons l3 (LiesS.cons l4 (LiesS.cons l5 LiesS.nil)))))).deeper (Nat.le_succ _)
set_option maxRecDepth 100000 in
/-- As a row opens it. -/
theorem open_law_tree {r : Reach} {b0 : Nat} {v : Value} {d : DataW H} {ps : List MemPlace}
    (hval : Value.okWide Try.prog w r b0 27 v) (hd : DataW.Trod enc Try.prog w base sp held 27 v d ps) : ∃ (t : T) (f : Nat) (vs : List Value), v = .agg vs.toArray ∧ LiesS w f vs (row t) := by
  obtain ⟨cs, rfl, hsz⟩ := okWide_struct Try.underlying27 hval
  obtain ⟨fuel, hf⟩ := hd
  obtain ⟨l⟩ := cs
  obtain ⟨t, ht⟩ := lies_tree fuel _ _ hf
  exact ⟨t, fuel, l, rfl, by simpa [Value.cells] using ht⟩
end
end Go.Proofs.Ytangdmjdjiddcaa.tree
