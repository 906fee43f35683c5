/- spec.PutKid. Printed by gen/gen_puts.py. -/
import Derived.Test.YtegpcjkcejijpaaGreatDoorGMk
import Derived.Test.YtegpcjkcejijpaaGreatDoorGPut
import Derived.Test.YtegpcjkcejijpaaGreatDoorGSz
import Derived.Deep.CutRange
import Derived.Deep.LoopGhost
namespace Go.Proofs.YtegpcjkcejijpaaGreatDoor.tree
open Go.ChangeShapes Go.WideShapes Go.ChangeAt Go.RowKit
set_option linter.unusedVariables false

theorem lit_rd (w : World) (x : Value) (t : TypeId) : Rd (w.alloc (.cells #[x] t)) (some ⟨w.heap.size, 0, none⟩) 1 [x] := by
 refine ⟨rfl, fun _ => ⟨w.heap.size, 0, rfl, by simp, fun j hj u hu => ?_⟩⟩
 have h := lit_cells w #[x] t j u hu
 rwa [Addr.add_lit] at h
theorem put_sizes (key : ByteArray) (kid : T) : ∀ (zs : List (ByteArray × T)) (laid : Bool), sizes ((put key kid laid zs).map (·.2)) ≤ sizes (zs.map (·.2)) + size kid
 | [], laid => by cases laid <;> simp [put, sizes]
 | (k, x) :: r, laid => by
  have h1 := put_sizes key kid r laid
  have h2 := put_sizes key kid r true
  have h3 : sizes ((put key kid true r).map (·.2)) ≤ sizes (r.map (·.2)) := by
   clear h1 h2
   induction r with
   | nil => simp [put]
   | cons p r ih =>
    obtain ⟨k, x⟩ := p
    rw [put]
    by_cases he : k = key <;> simp [he, sizes] <;> omega
  rw [put]
  by_cases he : k = key <;> by_cases hl : (!laid && !less k key) = true
  all_goals
   cases laid <;> simp_all [sizes] <;> omega

set_option maxRecDepth 1000000 in
set_option maxHeartbeats 16000000 in
theorem spec_put {f : Nat} (t : T) (key : ByteArray) (kid : T) (vs ks0 : List Value) (w : World) (h : LiesS w f vs (row t)) (hx : LiesS w f ks0 (row kid)) (hkey : key.size ≤ maxLen) (hwt : weight t ≤ 1048576) (hwk : weight kid ≤ 1048576) :
  Calls Tryz.prog 99 #[.agg vs.toArray, .string key, .agg ks0.toArray] w fun e w' => KidOut w.heap.size (f + 4) (putKid t key kid) e w' ∧ Below w.heap.size w w' := by
 obtain ⟨k, fl, n, s, ks, kids⟩ := t
 have hcopy := h
 obtain ⟨A1, c1, A2, c2, rfl, _, _, _, hc1, hc2, hr, hks, hc3, hc4, f', rfl, hk⟩ := open_tree h
 unfold maxLen at hc2 hc4
 obtain ⟨y0, y1, y2, y3, y4, y5, rfl⟩ := six_of (hx.1.trans (row_length _))
 obtain ⟨w1, hw1⟩ : ∃ w1, w1 = ((w.alloc (.cells #[.int .i64 k, .bool fl, .int .i64 n, .string s, .slice A1 ks.length c1, .slice A2 kids.length c2] 34)).alloc (.cells #[y0, y1, y2, y3, y4, y5] 34)).alloc (.cells #[.int .i64 0, .bool false, .int .i64 0, .string ⟨#[]⟩, .slice none 0 0, .slice none 0 0] 34) := ⟨_, rfl⟩
 have hb1 : Below w.heap.size w w1 := by subst hw1; exact (((Below.refl _ _).alloc (Nat.le_refl _) _).alloc (by simp) _).alloc (by simp <;> omega) _
 have h10 : w1.heap[w.heap.size]? = some (.cells #[.int .i64 k, .bool fl, .int .i64 n, .string s, .slice A1 ks.length c1, .slice A2 kids.length c2] 34 (0, 0)) := by
  subst hw1
  rw [Below.heap_alloc _ _ _ (by simp <;> omega), Below.heap_alloc _ _ _ (by simp)]
  exact heap_alloc_new w _
 have h11 : w1.heap[w.heap.size + 1]? = some (.cells #[y0, y1, y2, y3, y4, y5] 34 (0, 0)) := by
  subst hw1
  rw [Below.heap_alloc _ _ _ (by simp)]
  have h := heap_alloc_new (w.alloc (.cells #[.int .i64 k, .bool fl, .int .i64 n, .string s, .slice A1 ks.length c1, .slice A2 kids.length c2] 34)) (.cells #[y0, y1, y2, y3, y4, y5] 34)
  simpa using h
 have h12 : w1.heap[w.heap.size + 1 + 1]? = some (.cells #[.int .i64 0, .bool false, .int .i64 0, .string ⟨#[]⟩, .slice none 0 0, .slice none 0 0] 34 (0, 0)) := by
  subst hw1
  have h := heap_alloc_new ((w.alloc (.cells #[.int .i64 k, .bool fl, .int .i64 n, .string s, .slice A1 ks.length c1, .slice A2 kids.length c2] 34)).alloc (.cells #[y0, y1, y2, y3, y4, y5] 34)) (.cells #[.int .i64 0, .bool false, .int .i64 0, .string ⟨#[]⟩, .slice none 0 0, .slice none 0 0] 34)
  simpa using h
 have hszt : size (.mk k fl n s ks kids) ≤ 1099511627776 := by have := size_le_weight (.mk k fl n s ks kids); omega
 have HC := Lib.hid (fun w' (hb : Below w1.heap.size w1 w') => spec_copy (f' + 1) _ _ w' ((hcopy.below hb1).below hb) hwt)
 have HK := Lib.hid (fun w' (hb : Below w1.heap.size w1 w') => spec_copy (f' + 1) kid _ w' ((hx.below hb1).below hb) hwk)
 have HOK := Lib.hid (spec_okay (f' + 1) _ _ w1 (hcopy.below hb1) hszt)
 have Hkd := Lib.hid (hk.below hb1)
 have Hr := Lib.hid (hr.below hb1)
 have Hks := Lib.hid hks
 have Hkey := Lib.hid hkey
 have Hsk := Lib.hid (show size kid ≤ 1 + weight kid from size_le_weight kid)
 have Hwk := Lib.hid hwk
 have Hst := Lib.hid (show size (.mk k fl n s ks kids) ≤ 1 + weight (.mk k fl n s ks kids) from size_le_weight _)
 have Hwt0 := Lib.hid hwt
 rw [weight] at hwt
 have Hwt := Lib.hid hwt
 have H10 := Lib.hid h10
 have H11 := Lib.hid h11
 have H12 := Lib.hid h12
 have Hb1 := Lib.hid hb1
 have Hw1 := Lib.hid hw1
 obtain ⟨p0, p1, p2, p3, p4, p5⟩ := Row6.of h10
 rw [Hw1.out] at p0 p1 p2 p3 p4 p5
 obtain ⟨R, hR⟩ : ∃ R, putKid (.mk k fl n s ks kids) key kid = R := ⟨_, rfl⟩
 rw [hR]
 have HR := Lib.hid hR
 clear hcopy h hx hr hk hks hkey h10 h11 h12 hb1 hw1 hR hszt hwk hwt
 by_cases h6 : k = 6
 ·subst h6
  by_cases hok : Ok (.mk 6 fl n s ks kids)
  ·rw [dec_yes hok] at HOK
   have hl : ks.length = kids.length := by
    have h := hok.2.2
    rw [Shape] at h
    exact h.1.2.2.2.2.2.2.2 rfl
   have hnk : ks.length ≤ 1048576 := by have := Hwt.out; omega
   have Hok := Lib.hid hok
   have Hl := Lib.hid hl
   clear hok hl
   go_enter Tryz.func99, Tryz.ntmps99
   go_wp2_with fail
   rw [← Hw1.out]
   refine HOK.out.mono ?_
   rintro e w2 ⟨rfl, hb2⟩
   have Hb2 := Lib.hid hb2
   clear HOK hb2 p0 p1 p2 p3 p4 p5 Hw1
   obtain ⟨w3, hw3⟩ : ∃ w3, w3 = w2.alloc (.cells #[.int .i64 6, .bool false, .int .i64 0, .string ⟨#[]⟩, .slice none 0 0, .slice none 0 0] 34) := ⟨_, rfl⟩
   have Hst3 := Lib.hid (show ∃ ks1 kids1 v1 v2 xs Fs, Mid 9 34 w3 (w2.heap.size + 1) (f' + 3) w2.heap.size ks1 kids1 v1 v2 xs Fs ∧ Lay key kid (ks.zip kids) 0 false ks1 kids1 ∧ Below w2.heap.size w2 w3 from ⟨[], [], .slice none 0 0, .slice none 0 0, [], [], by
    subst hw3
    exact ⟨by omega, by simp, heap_alloc_new _ _, World.ownsRow_nil _ _ _ _, World.ownsRow_nil _ _ _ _, OwnS.nil, List.nodup_nil, (fun y hy => by cases hy), (fun y hy => by cases hy), (fun y hy => by simp [Value.ownBlock] at hy)⟩, Lay.start, by subst hw3; exact (Below.refl _ _).alloc (Nat.le_refl _) _⟩)
   have Hw3 := Lib.hid hw3
   clear hw3
   obtain ⟨i0, hi, hz0, hz1, hz2⟩ := info_parts TryzinfoStr'
   obtain ⟨i1, hi', hy0, hy1, hy2⟩ := info_parts TryzinfoTree'
   go_wp2_with fail
   rw [← Hw3.out]
   go_loopg [9, 10] ks.length (fun gk s9 s10 wr => ∃ (j : Nat) (laid : Bool), j ≤ ks.length ∧ gk = ks.length - j ∧ s9 = .bool laid ∧ s10 = .int .i64 j ∧ Hid (∃ ks1 kids1 v1 v2 xs Fs, Mid 9 34 wr (w2.heap.size + 1) (f' + 3) w2.heap.size ks1 kids1 v1 v2 xs Fs ∧ Lay key kid (ks.zip kids) j laid ks1 kids1 ∧ Below w2.heap.size w2 wr))
   case atStart => exact ⟨0, false, Nat.zero_le _, rfl, rfl, rfl, Hst3⟩
   case round =>
    clear Hst3 Hw3
    obtain ⟨j, laid, hj, rfl, rfl, rfl, hst⟩ := hrel
    have hbel : Below w2.heap.size w2 wr := by obtain ⟨_, _, _, _, _, _, _, _, h⟩ := hst.out; exact h
    have Hbel := Lib.hid hbel
    have hbt := below_link Hb2.out hbel Hb2.out.size
    obtain ⟨p0, p1, p2, p3, p4, p5⟩ := Row6.of (heap_kept hbt (heap_lt H10.out) H10.out)
    obtain ⟨q0, q1, q2, q3, q4, q5⟩ := Row6.of (heap_kept hbt (heap_lt H11.out) H11.out)
    clear hbel
    by_cases hlt : j < ks.length
    ·have hltk : j < kids.length := by have := Hl.out; omega
     obtain ⟨g, o, rfl, hg, hc0⟩ := Hr.out.2 (by omega)
     have hcell := hc0 j hlt _ (scells_get ks j hlt)
     have hks0 := Hks.out ks[j] (List.getElem_mem hlt)
     have hz : (ks.zip kids)[j]? = some (ks[j], kids[j]) := by rw [List.getElem?_eq_getElem (by rw [List.length_zip]; omega), List.getElem_zip]
     obtain ⟨gk, ok, rfl, hgk, hkid⟩ := Hkd.out (by omega)
     obtain ⟨z0, z1, z2, z3, z4, z5, hsix, hlsj⟩ := hkid j kids[j] (List.getElem?_eq_getElem hltk)
     have hwj : weight kids[j] ≤ 1048576 := by
      have h1 : weights kids = weights (kids.take (j + 1)) + weights (kids.drop (j + 1)) := by rw [← weights_append, List.take_append_drop]
      rw [List.take_succ_eq_append_getElem hltk, weights_append] at h1
      have h2 : weights [kids[j]] = weight kids[j] := by simp [weights]
      have := Hwt.out
      omega
     have Hcell := Lib.hid hcell
     have Hg := Lib.hid hg
     have Hgk := Lib.hid hgk
     have Hsix := Lib.hid hsix
     have HKj := Lib.hid (fun w' (hb : Below w1.heap.size w1 w') => spec_copy f' kids[j] _ w' (hlsj.below hb) hwj)
     have Hzj := Lib.hid hz
     have Hks0 := Lib.hid hks0
     have cell8 := (hbt.cell (p := ⟨g, o + j, none⟩) hg).trans hcell
     have Hbt := Lib.hid hbt
     clear hz hks0 hc0 hg hkid hgk hsix hlsj hwj hbt hcell
     generalize ks[j] = kj at cell8 Hcell Hks0 Hzj
     generalize kids[j] = xj at HKj Hzj
     obtain ⟨b, hb⟩ : ∃ b, b = (!laid && !less kj key) := ⟨_, rfl⟩
     have HB := Lib.hid hb
     clear hb
     go_upto_region 8 with fail
     go_cut [39] from 22 to 80 (fun s39 wx => wr = wx ∧ s39 = .bool b)
     case first =>
      cases laid
      ·obtain ⟨c, hc⟩ : ∃ c, less kj key = c := ⟨_, rfl⟩
       have Hc := Lib.hid hc
       unfold less at hc
       cases c
       all_goals
        go_wp2_with fail
        go_meet
        exact ⟨rfl, by rw [HB.out, Hc.out]; rfl⟩
      ·go_wp2_with fail
       go_meet
       exact ⟨rfl, by rw [HB.out]; rfl⟩
     case rest =>
      obtain ⟨hwc, hs39⟩ := hcut
      subst hwc
      subst hs39
      clear cell8
      go_upto_if 39 with fail
      go_cut [9] from 22 to 80 (fun s9 wx => ∃ laid1, s9 = .bool laid1 ∧ Hid (∃ ks1 kids1 v1 v2 xs Fs, Mid 9 34 wx (w2.heap.size + 1) (f' + 3) w2.heap.size ks1 kids1 v1 v2 xs Fs ∧ Half key kid (ks.zip kids) j kj xj laid1 ks1 kids1 ∧ Below w2.heap.size w2 wx))
      case first =>
       obtain ⟨ks1, kids1, v1, v2, xs, Fs, hm, hlay, hbw⟩ := hst.out
       have Hlay := Lib.hid hlay
       have hn1 : ks1.length ≤ 2097152 := by have := hlay.2.1; omega
       have hn2 : kids1.length ≤ 2097152 := by have := hlay.1; omega
       cases b
       ·have Hskip := Lib.hid (hlay.skip Hzj.out (by have h := HB.out; cases laid <;> simp at h ⊢; exact h))
        have Hm := Lib.hid hm
        clear hlay hm hbw
        go_wp2_with fail
        go_meet
        exact ⟨laid, rfl, Lib.hid ⟨_, _, _, _, _, _, Hm.out, Hskip.out, Hbel.out⟩⟩
       ·have hl2 : laid = false ∧ less kj key = false := by have h := HB.out; cases laid <;> simp at h ⊢; exact h
        obtain ⟨rfl, hless⟩ := hl2
        have Hmore := Lib.hid (hlay.lay Hzj.out hless Hkey.out)
        clear hlay hless
        obtain ⟨B1, b1, rfl⟩ := own_is_slice hm.r1
        obtain ⟨B2, b2, rfl⟩ := own_is_slice hm.r2
        obtain ⟨o0, o1, o2, o3, o4, o5⟩ := Row6.of hm.at_
        have of4 := frozen_of_row wr _ 4 _ _ hm.at_
        have of5 := frozen_of_row wr _ 5 _ _ hm.at_
        have Hma := Lib.hid (hm.of_below (show Below wr.heap.size wr (wr.alloc (.cells #[.string key] 9)) from (Below.refl _ _).alloc (Nat.le_refl _) _))
        have Hm := Lib.hid hm
        clear hm hbw
        go_wp2_with (first | (refine wpList_append_rd rfl (.tmp 41) (.tmp 43) 31 rfl (w2.heap.size + 1) 9 i0 (.string ⟨#[]⟩) 16 Tryz.underlying31 hi hz0 hz1 hz2 rfl _ ks1.length (scells ks1) rfl Hma.out.r1 (some ⟨wr.heap.size, 0, none⟩) 1 1 [.string key] rfl (lit_rd _ _ _) (by simp [Value.oneCell']) (by unfold maxLen; omega) (by omega) Hma.out.low ?_) | fail)
        intro v3 w4 hown4 hg4 hat4
        obtain ⟨C1, d1, rfl⟩ := own_is_slice hown4
        have h42 := Mid.stay Hma.out hg4 (.inl rfl)
        have r4 := (Row6.of h42).2.2.2.2.1
        have f4 := frozen_of_row w4 _ 4 _ _ h42
        obtain ⟨w5, hw5⟩ : ∃ w5, w5 = w4.setCell ⟨w2.heap.size, 4, none⟩ (.slice C1 (ks1.length + 1) d1) := ⟨_, rfl⟩
        have hk1 := Mid.key Hma.out hown4 hg4 (hat4.imp id (fun e => e.trans (by simp)))
        rw [← hw5] at hk1
        have Hm5 := Lib.hid hk1.1
        have Hbw5 := Lib.hid (show Below w2.heap.size w2 w5 from Hbel.out.trans (((Below.refl _ _).alloc (by have := Hm.out.bounds.2.2.2; omega) _).trans hk1.2))
        have Hw5 := Lib.hid hw5
        have HKc := HK
        clear hk1 hown4 hg4 hat4 h42 hw5 o0 o1 o2 o3 o5 of5
        go_wp2_with fail
        rw [← Hw5.out]
        clear o4 of4 r4 f4 p0 p1 p2 p3 p4 p5 q0 q1 q2 q3 q4 q5
        have hwc8 : Below w2.heap.size w2 w5 := Hbw5.out
        have Hb15 := Lib.hid (below_link Hb2.out hwc8 Hb2.out.size)
        clear hwc8
        obtain ⟨o0, o1, o2, o3, o4, o5⟩ := Row6.of Hm5.out.at_
        have of5 := frozen_of_row w5 _ 5 _ _ Hm5.out.at_
        obtain ⟨q0, q1, q2, q3, q4, q5⟩ := Row6.of (heap_kept Hb15.out (heap_lt H11.out) H11.out)
        go_region_law (first | (refine step_append_at rfl (.tmp 47) (.tmp 50) 32 rfl (w2.heap.size + 1) 34 i1 _ 6 88 Tryz.underlying32 hi' hy0 hy1 hy2 rfl (by decide) _ kids1.length xs rfl hm8.r2 ⟨w7.heap.size, 0, none⟩ 1 1 [x0, x1, x2, x3, x4, x5] rfl rfl (by exact lit_cells _ _ _) hone8 (by unfold maxLen; omega) (by omega) hm8.low ?_; intro v3 w9 hown9 hg9 hat9; obtain ⟨A9, c9, rfl⟩ := own_is_slice hown9; have h92 := Mid.stay hm8 hg9 (.inr rfl); have r9 := (Row6.of h92).2.2.2.2.2; have f9 := frozen_of_row w9 _ 5 _ _ h92) | (go_simp; go_at_call 138; refine (HKc.out _ Hb15.out.drew).mono ?_; rintro e w7 ⟨⟨us, G, rfl, hoG, hnG⟩, hb7⟩; obtain ⟨x0, x1, x2, x3, x4, x5, rfl⟩ := six_of (hoG.1.trans (row_length _)); have hbr : Below w5.heap.size w5 w7 := (Below.refl _ _).drew.trans (hb7.mono (Nat.le_refl _)); have hba : Below w7.heap.size w7 (w7.alloc (.cells #[x0, x1, x2, x3, x4, x5] 34)) := (Below.refl _ _).alloc (Nat.le_refl _) _; have hb8 := below_link hbr hba hbr.size; have hm7 := Hm5.out.of_below hbr; have hm8 := Hm5.out.of_below hb8; have hone8 := hoG.ones; have r7 := (Row6.of hm7.at_).2.2.2.2.2; have r8 := (Row6.of hm8.at_).2.2.2.2.2))
        all_goals
         have hk2 := Mid.kid (N := w5.heap.size) hm8 (hoG.below hba) hnG Hm5.out.bounds.1 Hm5.out.bounds.2.1 Hm5.out.bounds.2.2.1 Hm5.out.low hown9 hg9 hat9
         have Hk2 := Lib.hid hk2.1
         have Hbk2 := Lib.hid (Hbw5.out.trans ((hb8.mono (Nat.le_of_lt Hm5.out.bounds.2.2.2)).trans hk2.2))
         clear hk2 h92 r9 f9 hown9 hg9 hat9 hm7 hm8 r7 r8 hone8 hoG hnG hb7 hbr hba hb8
         go_wp2_with fail
         go_meet
         exact ⟨true, rfl, Lib.hid ⟨_, _, _, _, _, _, Hk2.out, Hmore.out, Hbk2.out⟩⟩
      case rest =>
       obtain ⟨laid1, rfl, hh⟩ := hcut
       obtain ⟨ks1, kids1, v1, v2, xs, Fs, hm, hhalf, hbw⟩ := hh.out
       have hn1 : ks1.length ≤ 2097152 := by have := hhalf.2.1; omega
       have hn2 : kids1.length ≤ 2097152 := by have := hhalf.1; omega
       have Hbw := Lib.hid hbw
       have Hbx := Lib.hid (below_link Hb2.out hbw Hb2.out.size)
       obtain ⟨p0, p1, p2, p3, p4, p5⟩ := Row6.of (heap_kept Hbx.out (heap_lt H10.out) H10.out)
       have cell8 := (Hbx.out.cell (p := ⟨g, o + j, none⟩) Hg.out).trans Hcell.out
       by_cases he : kj = key
       ·have e1 := same_yes he
        have Hnext := Lib.hid (hhalf.skip he)
        have Hm := Lib.hid hm
        clear hhalf hm hbw he hh
        go_wp2_with fail
        go_roundg (ks.length - (j + 1))
        case measure => omega
        case rel => exact ⟨j + 1, laid1, by omega, rfl, rfl, by go_num, Lib.hid ⟨_, _, _, _, _, _, Hm.out, Hnext.out, Hbw.out⟩⟩
       ·have e1 := same_no he
        have Hnext := Lib.hid (hhalf.push he Hks0.out)
        clear hhalf he hh
        obtain ⟨wq, hwq⟩ : ∃ wq, wq = wc := ⟨_, rfl⟩
        subst hwq
        go_upto_region 13 with fail
        go_cut [] from 22 to 80 (fun wx => Hid (∃ v1 v2 xs Fs, Mid 9 34 wx (w2.heap.size + 1) (f' + 3) w2.heap.size (ks1 ++ [kj]) kids1 v1 v2 xs Fs ∧ Below w2.heap.size w2 wx))
        case first =>
         obtain ⟨B1, b1, rfl⟩ := own_is_slice hm.r1
         obtain ⟨B2, b2, rfl⟩ := own_is_slice hm.r2
         obtain ⟨o0, o1, o2, o3, o4, o5⟩ := Row6.of hm.at_
         have of4 := frozen_of_row wq _ 4 _ _ hm.at_
         have of5 := frozen_of_row wq _ 5 _ _ hm.at_
         have hma := hm.of_below (show Below wq.heap.size wq (wq.drew.alloc (.cells #[.string kj] 9)) from (Below.refl _ _).drew.alloc (Nat.le_refl _) _)
         have Hma := Lib.hid hma
         have l8 : w2.heap.size < wq.heap.size := hm.bounds.2.2.2
         have l3 : w.heap.size < wq.heap.size := Nat.lt_of_lt_of_le (heap_lt H10.out) Hbx.out.size
         have lg : g < wq.heap.size := Nat.lt_of_lt_of_le Hg.out Hbx.out.size
         have Hm := Lib.hid hm
         clear hma
         clear hm hbw
         go_wp2_with fail
         go_region_law (first | (refine step_append_at rfl (.tmp 61) (.tmp 67) 31 rfl (w2.heap.size + 1) 9 i0 _ 1 16 Tryz.underlying31 hi hz0 hz1 hz2 rfl (by decide) _ ks1.length (scells ks1) rfl Hma.out.r1 ⟨wq.heap.size, 0, none⟩ 1 1 [.string kj] rfl rfl (by exact lit_cells _ _ _) (by simp [Value.oneCell']) (by unfold maxLen; omega) (by omega) Hma.out.low ?_; intro v3 w4 hown4 hg4 hat4; obtain ⟨C1, d1, rfl⟩ := own_is_slice hown4; have h42 := Mid.stay Hma.out hg4 (.inl rfl); have r4 := (Row6.of h42).2.2.2.2.1; have f4 := frozen_of_row w4 _ 4 _ _ h42))
         all_goals
          have hk1 := Mid.key Hma.out hown4 hg4 (hat4.imp id (fun e => e.trans (by simp)))
          have Hm5 := Lib.hid hk1.1
          have Hbw5 := Lib.hid (Hbw.out.trans (((Below.refl _ _).drew.alloc (by have := Hm.out.bounds.2.2.2; exact Nat.le_of_lt this) _).trans hk1.2))
          clear hk1 hown4 hg4 hat4 h42
          go_wp2_with fail
          go_meet
          exact Lib.hid ⟨_, _, _, _, Hm5.out, Hbw5.out⟩
        case rest =>
         obtain ⟨w5, hw5⟩ : ∃ w5, w5 = wc := ⟨_, rfl⟩
         subst hw5
         clear hm hbw Hbw Hbx p0 p1 p2 p3 p4 p5 cell8
         obtain ⟨v1, v2, xs, Fs, hm5, hbw5⟩ := hcut.out
         have HKc := HKj
         have Hbw5 := Lib.hid hbw5
         obtain ⟨B1, b1, rfl⟩ := own_is_slice hm5.r1
         obtain ⟨B2, b2, rfl⟩ := own_is_slice hm5.r2
         obtain ⟨o0, o1, o2, o3, o4, o5⟩ := Row6.of hm5.at_
         have of4 := frozen_of_row w5 _ 4 _ _ hm5.at_
         have of5 := frozen_of_row w5 _ 5 _ _ hm5.at_
         have Hm5 := Lib.hid hm5
         clear hm5 hbw5 hcut
         have hwc8 : Below w2.heap.size w2 w5 := Hbw5.out
         have Hb15 := Lib.hid (below_link Hb2.out hwc8 Hb2.out.size)
         clear hwc8
         obtain ⟨p0, p1, p2, p3, p4, p5⟩ := Row6.of (heap_kept Hb15.out (heap_lt H10.out) H10.out)
         obtain ⟨q0, q1, q2, q3, q4, q5⟩ := Hsix.out.block (Hb15.out.block gk Hgk.out)
         go_wp2_with fail
         go_region_law (first | (refine step_append_at rfl (.tmp 71) (.tmp 78) 32 rfl (w2.heap.size + 1) 34 i1 _ 6 88 Tryz.underlying32 hi' hy0 hy1 hy2 rfl (by decide) _ kids1.length xs rfl hm8.r2 ⟨w7.heap.size, 0, none⟩ 1 1 [x0, x1, x2, x3, x4, x5] rfl rfl (by exact lit_cells _ _ _) hone8 (by unfold maxLen; omega) (by omega) hm8.low ?_; intro v3 w9 hown9 hg9 hat9; obtain ⟨A9, c9, rfl⟩ := own_is_slice hown9; have h92 := Mid.stay hm8 hg9 (.inr rfl); have r9 := (Row6.of h92).2.2.2.2.2; have f9 := frozen_of_row w9 _ 5 _ _ h92) | (go_simp; go_at_call 138; refine (HKc.out _ Hb15.out.drew).mono ?_; rintro e w7 ⟨⟨us, G, rfl, hoG, hnG⟩, hb7⟩; obtain ⟨x0, x1, x2, x3, x4, x5, rfl⟩ := six_of (hoG.1.trans (row_length _)); have hbr : Below w5.heap.size w5 w7 := (Below.refl _ _).drew.trans (hb7.mono (Nat.le_refl _)); have hba : Below w7.heap.size w7 (w7.alloc (.cells #[x0, x1, x2, x3, x4, x5] 34)) := (Below.refl _ _).alloc (Nat.le_refl _) _; have hb8 := below_link hbr hba hbr.size; have hm7 := Hm5.out.of_below hbr; have hm8 := Hm5.out.of_below hb8; have hone8 := hoG.ones; have r7 := (Row6.of hm7.at_).2.2.2.2.2; have r8 := (Row6.of hm8.at_).2.2.2.2.2))
         all_goals
          have hk2 := Mid.kid (N := w5.heap.size) hm8 (OwnS.deeper (f' := f' + 3) (hoG.below hba) (by omega)) hnG Hm5.out.bounds.1 Hm5.out.bounds.2.1 Hm5.out.bounds.2.2.1 Hm5.out.low hown9 hg9 hat9
          have Hk2 := Lib.hid hk2.1
          have Hbk2 := Lib.hid (Hbw5.out.trans ((hb8.mono (Nat.le_of_lt Hm5.out.bounds.2.2.2)).trans hk2.2))
          clear hk2 h92 r9 f9 hown9 hg9 hat9 hm7 hm8 r7 r8 hone8 hoG hnG hb7 hbr hba hb8
          go_wp2_with fail
          go_roundg (ks.length - (j + 1))
          case measure => omega
          case rel => exact ⟨j + 1, laid1, by omega, rfl, rfl, by go_num, Lib.hid ⟨_, _, _, _, _, _, Hk2.out, Hnext.out, Hbk2.out⟩⟩
    ·obtain rfl : j = ks.length := by omega
     have hzl : (ks.zip kids).length = ks.length := by have := Hl.out; rw [List.length_zip]; omega
     have Hzl := Lib.hid hzl
     clear hzl hbt
     go_upto_if 82 with fail
     go_cut [9] from 22 (fun s9 wx => Hid (∃ ks1 kids1 v1 v2 xs Fs, Mid 9 34 wx (w2.heap.size + 1) (f' + 3) w2.heap.size ks1 kids1 v1 v2 xs Fs ∧ putT (.mk 6 fl n s ks kids) key kid = .mk 6 false 0 ⟨#[]⟩ ks1 kids1 ∧ (∀ x ∈ ks1, x.size ≤ maxLen) ∧ Below w2.heap.size w2 wx))
     case first =>
      obtain ⟨ks1, kids1, v1, v2, xs, Fs, hm, hlay, hbw⟩ := hst.out
      have hlay' : Lay key kid (ks.zip kids) (ks.zip kids).length laid ks1 kids1 := by rw [Hzl.out]; exact hlay
      have hn1 : ks1.length ≤ 2097152 := by have := hlay.2.1; omega
      have hn2 : kids1.length ≤ 2097152 := by have := hlay.1; omega
      cases laid
      ·have Hmore := Lib.hid (show putT (.mk 6 fl n s ks kids) key kid = _ from hlay'.last)
       have Hszs := Lib.hid (mem_snoc_size hlay.2.2.1 Hkey.out)
       clear hlay hlay'
       obtain ⟨B1, b1, rfl⟩ := own_is_slice hm.r1
       obtain ⟨B2, b2, rfl⟩ := own_is_slice hm.r2
       obtain ⟨o0, o1, o2, o3, o4, o5⟩ := Row6.of hm.at_
       have of4 := frozen_of_row wr _ 4 _ _ hm.at_
       have of5 := frozen_of_row wr _ 5 _ _ hm.at_
       have Hma := Lib.hid (hm.of_below (show Below wr.heap.size wr (wr.alloc (.cells #[.string key] 9)) from (Below.refl _ _).alloc (Nat.le_refl _) _))
       have Hm := Lib.hid hm
       clear hm hbw
       go_wp2_with (first | (refine wpList_append_rd rfl (.tmp 84) (.tmp 86) 31 rfl (w2.heap.size + 1) 9 i0 (.string ⟨#[]⟩) 16 Tryz.underlying31 hi hz0 hz1 hz2 rfl _ ks1.length (scells ks1) rfl Hma.out.r1 (some ⟨wr.heap.size, 0, none⟩) 1 1 [.string key] rfl (lit_rd _ _ _) (by simp [Value.oneCell']) (by unfold maxLen; omega) (by omega) Hma.out.low ?_) | fail)
       intro v3 w4 hown4 hg4 hat4
       obtain ⟨C1, d1, rfl⟩ := own_is_slice hown4
       have h42 := Mid.stay Hma.out hg4 (.inl rfl)
       have r4 := (Row6.of h42).2.2.2.2.1
       have f4 := frozen_of_row w4 _ 4 _ _ h42
       obtain ⟨w5, hw5⟩ : ∃ w5, w5 = w4.setCell ⟨w2.heap.size, 4, none⟩ (.slice C1 (ks1.length + 1) d1) := ⟨_, rfl⟩
       have hk1 := Mid.key Hma.out hown4 hg4 (hat4.imp id (fun e => e.trans (by simp)))
       rw [← hw5] at hk1
       have Hm5 := Lib.hid hk1.1
       have Hbw5 := Lib.hid (show Below w2.heap.size w2 w5 from Hbel.out.trans (((Below.refl _ _).alloc (by have := Hm.out.bounds.2.2.2; omega) _).trans hk1.2))
       have Hw5 := Lib.hid hw5
       have HKc := HK
       clear hk1 hown4 hg4 hat4 h42 hw5 o0 o1 o2 o3 o5 of5
       go_wp2_with fail
       rw [← Hw5.out]
       clear o4 of4 r4 f4 p0 p1 p2 p3 p4 p5 q0 q1 q2 q3 q4 q5
       have hwc8 : Below w2.heap.size w2 w5 := Hbw5.out
       have Hb15 := Lib.hid (below_link Hb2.out hwc8 Hb2.out.size)
       clear hwc8
       obtain ⟨o0, o1, o2, o3, o4, o5⟩ := Row6.of Hm5.out.at_
       have of5 := frozen_of_row w5 _ 5 _ _ Hm5.out.at_
       obtain ⟨q0, q1, q2, q3, q4, q5⟩ := Row6.of (heap_kept Hb15.out (heap_lt H11.out) H11.out)
       go_region_law (first | (refine step_append_at rfl (.tmp 90) (.tmp 93) 32 rfl (w2.heap.size + 1) 34 i1 _ 6 88 Tryz.underlying32 hi' hy0 hy1 hy2 rfl (by decide) _ kids1.length xs rfl hm8.r2 ⟨w7.heap.size, 0, none⟩ 1 1 [x0, x1, x2, x3, x4, x5] rfl rfl (by exact lit_cells _ _ _) hone8 (by unfold maxLen; omega) (by omega) hm8.low ?_; intro v3 w9 hown9 hg9 hat9; obtain ⟨A9, c9, rfl⟩ := own_is_slice hown9; have h92 := Mid.stay hm8 hg9 (.inr rfl); have r9 := (Row6.of h92).2.2.2.2.2; have f9 := frozen_of_row w9 _ 5 _ _ h92) | (go_simp; go_at_call 138; refine (HKc.out _ Hb15.out.drew).mono ?_; rintro e w7 ⟨⟨us, G, rfl, hoG, hnG⟩, hb7⟩; obtain ⟨x0, x1, x2, x3, x4, x5, rfl⟩ := six_of (hoG.1.trans (row_length _)); have hbr : Below w5.heap.size w5 w7 := (Below.refl _ _).drew.trans (hb7.mono (Nat.le_refl _)); have hba : Below w7.heap.size w7 (w7.alloc (.cells #[x0, x1, x2, x3, x4, x5] 34)) := (Below.refl _ _).alloc (Nat.le_refl _) _; have hb8 := below_link hbr hba hbr.size; have hm7 := Hm5.out.of_below hbr; have hm8 := Hm5.out.of_below hb8; have hone8 := hoG.ones; have r7 := (Row6.of hm7.at_).2.2.2.2.2; have r8 := (Row6.of hm8.at_).2.2.2.2.2))
       all_goals
        have hk2 := Mid.kid (N := w5.heap.size) hm8 (hoG.below hba) hnG Hm5.out.bounds.1 Hm5.out.bounds.2.1 Hm5.out.bounds.2.2.1 Hm5.out.low hown9 hg9 hat9
        have Hk2 := Lib.hid hk2.1
        have Hbk2 := Lib.hid (Hbw5.out.trans ((hb8.mono (Nat.le_of_lt Hm5.out.bounds.2.2.2)).trans hk2.2))
        clear hk2 h92 r9 f9 hown9 hg9 hat9 hm7 hm8 r7 r8 hone8 hoG hnG hb7 hbr hba hb8
        go_wp2_with fail
        go_meet
        exact Lib.hid ⟨_, _, _, _, _, _, Hk2.out, Hmore.out, Hszs.out, Hbk2.out⟩
      ·have Hmore := Lib.hid (show putT (.mk 6 fl n s ks kids) key kid = _ from hlay'.done)
       have Hszs := Lib.hid hlay.2.2.1
       have Hm := Lib.hid hm
       clear hlay hlay' hm hbw
       go_wp2_with fail
       go_meet
       exact Lib.hid ⟨_, _, _, _, _, _, Hm.out, Hmore.out, Hszs.out, Hbel.out⟩
     case rest =>
      clear p0 p1 p2 p3 p4 p5 q0 q1 q2 q3 q4 q5
      obtain ⟨ks1, kids1, v1, v2, xs, Fs, hm, hput, hsz1, hbw⟩ := hcut.out
      obtain ⟨F9, ho9, hnd9⟩ := Mid.out (f := f' + 2) hm hsz1
      have hzs : size (T.mk 6 false 0 ⟨#[]⟩ ks1 kids1) ≤ 1099511627776 := by
       have h := put_sizes key kid (ks.zip kids) false
       rw [(map_zip Hl.out).2] at h
       have h1 := Hst.out
       have h2 := Hwt0.out
       have h3 := Hsk.out
       have h4 := Hwk.out
       rw [← hput]
       unfold putT
       rw [size] at h1 ⊢
       simp only [T.keys, T.kids]
       omega
      have HOK2 := Lib.hid (spec_okay (f' + 5) (.mk 6 false 0 ⟨#[]⟩ ks1 kids1) _ wc ho9.lies hzs)
      obtain ⟨B1, b1, rfl⟩ := own_is_slice hm.r1
      obtain ⟨B2, b2, rfl⟩ := own_is_slice hm.r2
      obtain ⟨o0, o1, o2, o3, o4, o5⟩ := Row6.of hm.at_
      have of4 := frozen_of_row wc _ 4 _ _ hm.at_
      have of5 := frozen_of_row wc _ 5 _ _ hm.at_
      have Hm := Lib.hid hm
      have Ho9 := Lib.hid ho9
      have Hput := Lib.hid hput
      have Hbw := Lib.hid hbw
      have Hbx := Lib.hid (below_link Hb2.out hbw Hb2.out.size)
      clear hm ho9 hput hbw hcut hsz1 hzs hst
      by_cases hok2 : Ok (.mk 6 false 0 ⟨#[]⟩ ks1 kids1)
      ·rw [dec_yes hok2] at HOK2
       have Hend := Lib.hid (show R = (.mk 6 false 0 ⟨#[]⟩ ks1 kids1, true) by
        rw [← HR.out]
        unfold putKid
        rw [if_pos ⟨rfl, Hok.out, by rw [Hput.out]; exact hok2⟩, Hput.out])
       clear hok2
       go_wp2_with fail
       refine HOK2.out.mono ?_
       rintro e w9 ⟨rfl, hb9⟩
       have hm9 := Hm.out.of_below hb9
       clear o0 o1 o2 o3 o4 o5 of4 of5
       obtain ⟨o0, o1, o2, o3, o4, o5⟩ := Row6.of hm9.at_
       have Hbx9 := Lib.hid (below_link Hbx.out hb9 Hbx.out.size)
       have Hlow := Lib.hid (show w.heap.size + 1 + 1 < w2.heap.size from Nat.lt_of_lt_of_le (heap_lt H12.out) Hb2.out.size)
       have h92 := heap_kept Hbx9.out (heap_lt H12.out) H12.out
       have H92 := Lib.hid h92
       have hone9 := Ho9.out.one
       have Ho10 := Lib.hid (Ho9.out.below hb9)
       clear hm9 hb9
       go_wp2_with (first | (refine wpList_store_row rfl 34 _ _ rfl (w.heap.size + 1 + 1) #[.int .i64 6, .bool false, .int .i64 0, .string ⟨#[]⟩, .slice B1 ks1.length b1, .slice B2 kids1.length b2] rfl rfl 34 _ h92 tree_size' rfl hone9 ?_) | fail)
       have ho11 : OwnS (w9.setRow (w.heap.size + 1 + 1) #[.int .i64 6, .bool false, .int .i64 0, .string ⟨#[]⟩, .slice B1 ks1.length b1, .slice B2 kids1.length b2]) w.heap.size (f' + 5) [.int .i64 6, .bool false, .int .i64 0, .string ⟨#[]⟩, .slice B1 ks1.length b1, .slice B2 kids1.length b2] (row (.mk 6 false 0 ⟨#[]⟩ ks1 kids1)) F9 := (OwnS.kept (fun y hy => by
        have h3 := (Ho10.out.range y hy).1
        have h4 := Hlow.out
        simp only [World.setRow, Array.getElem?_modify]
        rw [if_neg (by omega)]) Ho10.out).lower (by have := Hlow.out; omega)
       have e := Hend.out
       subst e
       refine bodyPost_ret (v := .tuple #[.agg #[.int .i64 6, .bool false, .int .i64 0, .string ⟨#[]⟩, .slice B1 ks1.length b1, .slice B2 kids1.length b2], .bool true]) ?_ rfl ⟨⟨_, F9, rfl, ho11, hnd9⟩, setRow_below (below_link Hb1.out Hbx9.out Hb1.out.size) (by omega) _⟩
       exact ret_tree2 rfl rfl rfl rfl (setRow_at H92.out)
      ·rw [dec_no hok2] at HOK2
       have Hend := Lib.hid (show R = ((.mk 6 fl n s ks kids), false) by
        rw [← HR.out]
        unfold putKid
        rw [if_neg (fun h => hok2 (by rw [← Hput.out]; exact h.2.2))])
       clear hok2
       go_wp2_with fail
       refine HOK2.out.mono ?_
       rintro e w9 ⟨rfl, hb9⟩
       have Hbx9 := Lib.hid (below_link Hbx.out hb9 Hbx.out.size)
       clear o0 o1 o2 o3 o4 o5 of4 of5 hb9
       obtain ⟨p0, p1, p2, p3, p4, p5⟩ := Row6.of (heap_kept Hbx9.out (heap_lt H10.out) H10.out)
       go_wp2_with fail
       refine (HC.out w9 Hbx9.out).mono ?_
       rintro e w8 ⟨⟨us, F8, rfl, ho8, hnd8⟩, hb8⟩
       obtain ⟨x0, x1, x2, x3, x4, x5, rfl⟩ := six_of (ho8.1.trans (row_length _))
       have hone8 := ho8.one
       have hbx8 := below_link Hbx9.out hb8 (Below.size Hbx9.out)
       have h81 := heap_kept hbx8 (heap_lt H12.out) H12.out
       have H81 := Lib.hid h81
       have Ho8 := Lib.hid ho8
       have Hb8 := Lib.hid (below_link Hb1.out hbx8 Hb1.out.size)
       have Hlt8 := Lib.hid (show w.heap.size + 1 + 1 < w9.heap.size from Nat.lt_of_lt_of_le (heap_lt H12.out) (Below.size Hbx9.out))
       clear ho8 hb8 hbx8
       go_wp2_with (first | (refine wpList_store_row rfl 34 _ _ rfl (w.heap.size + 1 + 1) #[x0, x1, x2, x3, x4, x5] rfl rfl 34 _ h81 tree_size' rfl hone8 ?_) | fail)
       have ho9 : OwnS (w8.setRow (w.heap.size + 1 + 1) #[x0, x1, x2, x3, x4, x5]) w.heap.size (f' + 5) [x0, x1, x2, x3, x4, x5] (row (.mk 6 fl n s ks kids)) F8 := ((OwnS.kept (fun y hy => by
        have h3 := (Ho8.out.range y hy).1
        have h4 := Hlt8.out
        simp only [World.setRow, Array.getElem?_modify]
        rw [if_neg (by omega)]) Ho8.out).lower (by have := Hlt8.out; omega)).deeper (by omega)
       have e := Hend.out
       subst e
       refine bodyPost_ret (v := .tuple #[.agg #[x0, x1, x2, x3, x4, x5], .bool false]) ?_ rfl ⟨⟨_, F8, rfl, ho9, hnd8⟩, setRow_below Hb8.out (by omega) _⟩
       exact ret_tree2 rfl rfl rfl rfl (setRow_at H81.out)
  ·rw [dec_no hok] at HOK
   have Hend := Lib.hid (show R = ((.mk 6 fl n s ks kids), false) by
    rw [← HR.out]
    unfold putKid
    rw [if_neg (fun h => hok h.2.1)])
   clear hok
   go_enter Tryz.func99, Tryz.ntmps99
   go_wp2_with fail
   rw [← Hw1.out]
   refine HOK.out.mono ?_
   rintro e w2 ⟨rfl, hb2⟩
   have Hb2 := Lib.hid hb2
   clear HOK hb2 p0 p1 p2 p3 p4 p5 Hw1
   obtain ⟨p0, p1, p2, p3, p4, p5⟩ := Row6.of (heap_kept Hb2.out (heap_lt H10.out) H10.out)
   go_wp2_with fail
   refine (HC.out w2 Hb2.out).mono ?_
   rintro e w8 ⟨⟨us, F8, rfl, ho8, hnd8⟩, hb8⟩
   obtain ⟨x0, x1, x2, x3, x4, x5, rfl⟩ := six_of (ho8.1.trans (row_length _))
   have hone8 := ho8.one
   have hbx8 := below_link Hb2.out hb8 (Below.size Hb2.out)
   have h81 := heap_kept hbx8 (heap_lt H12.out) H12.out
   have H81 := Lib.hid h81
   have Ho8 := Lib.hid ho8
   have Hb8 := Lib.hid (below_link Hb1.out hbx8 Hb1.out.size)
   have Hlt8 := Lib.hid (show w.heap.size + 1 + 1 < w2.heap.size from Nat.lt_of_lt_of_le (heap_lt H12.out) (Below.size Hb2.out))
   clear ho8 hb8 hbx8
   go_wp2_with (first | (refine wpList_store_row rfl 34 _ _ rfl (w.heap.size + 1 + 1) #[x0, x1, x2, x3, x4, x5] rfl rfl 34 _ h81 tree_size' rfl hone8 ?_) | fail)
   have ho9 : OwnS (w8.setRow (w.heap.size + 1 + 1) #[x0, x1, x2, x3, x4, x5]) w.heap.size (f' + 5) [x0, x1, x2, x3, x4, x5] (row (.mk 6 fl n s ks kids)) F8 := ((OwnS.kept (fun y hy => by
    have h3 := (Ho8.out.range y hy).1
    have h4 := Hlt8.out
    simp only [World.setRow, Array.getElem?_modify]
    rw [if_neg (by omega)]) Ho8.out).lower (by have := Hlt8.out; omega)).deeper (by omega)
   have e := Hend.out
   subst e
   refine bodyPost_ret (v := .tuple #[.agg #[x0, x1, x2, x3, x4, x5], .bool false]) ?_ rfl ⟨⟨_, F8, rfl, ho9, hnd8⟩, setRow_below Hb8.out (by omega) _⟩
   exact ret_tree2 rfl rfl rfl rfl (setRow_at H81.out)
 ·have Hend := Lib.hid (show R = (.mk k fl n s ks kids, false) by
   rw [← HR.out]
   unfold putKid
   rw [if_neg (fun h => h6 h.1)])
  have e6 : (k == 6) = false := beq_eq_false_iff_ne.2 h6
  have e7 : (k != 6) = true := by rw [bne_iff_ne]; exact h6
  go_enter Tryz.func99, Tryz.ntmps99
  go_wp2_with fail
  rw [← Hw1.out]
  refine (HC.out w1 (Below.refl w1.heap.size w1)).mono ?_
  rintro e w8 ⟨⟨us, F8, rfl, ho8, hnd8⟩, hb8⟩
  obtain ⟨x0, x1, x2, x3, x4, x5, rfl⟩ := six_of (ho8.1.trans (row_length _))
  have hone8 := ho8.one
  have hbx8 := below_link (Below.refl w1.heap.size w1) hb8 (Below.size (Below.refl w1.heap.size w1))
  have h81 := heap_kept hbx8 (heap_lt H12.out) H12.out
  have H81 := Lib.hid h81
  have Ho8 := Lib.hid ho8
  have Hb8 := Lib.hid (below_link Hb1.out hbx8 Hb1.out.size)
  have Hlt8 := Lib.hid (show w.heap.size + 1 + 1 < w1.heap.size from Nat.lt_of_lt_of_le (heap_lt H12.out) (Below.size (Below.refl w1.heap.size w1)))
  clear ho8 hb8 hbx8
  go_wp2_with (first | (refine wpList_store_row rfl 34 _ _ rfl (w.heap.size + 1 + 1) #[x0, x1, x2, x3, x4, x5] rfl rfl 34 _ h81 tree_size' rfl hone8 ?_) | fail)
  have ho9 : OwnS (w8.setRow (w.heap.size + 1 + 1) #[x0, x1, x2, x3, x4, x5]) w.heap.size (f' + 5) [x0, x1, x2, x3, x4, x5] (row (.mk k fl n s ks kids)) F8 := ((OwnS.kept (fun y hy => by
   have h3 := (Ho8.out.range y hy).1
   have h4 := Hlt8.out
   simp only [World.setRow, Array.getElem?_modify]
   rw [if_neg (by omega)]) Ho8.out).lower (by have := Hlt8.out; omega)).deeper (by omega)
  have e := Hend.out
  subst e
  refine bodyPost_ret (v := .tuple #[.agg #[x0, x1, x2, x3, x4, x5], .bool false]) ?_ rfl ⟨⟨_, F8, rfl, ho9, hnd8⟩, setRow_below Hb8.out (by omega) _⟩
  exact ret_tree2 rfl rfl rfl rfl (setRow_at H81.out)
end Go.Proofs.YtegpcjkcejijpaaGreatDoor.tree
