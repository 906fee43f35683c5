/- Merged: SctS IndLS IndLT. -/
import Derived.Test.YtbfkkaafkinpmaaGreatDoorGBk
import Derived.Test.YtbfkkaafkinpmaaGreatDoorGQuS
import Derived.Test.YtbfkkaafkinpmaaGreatDoorGSz
import Derived.Test.YtbfkkaafkinpmaaGreatDoorGDec
import Derived.Test.YtbfkkaafkinpmaaGreatDoorGInd
import Derived.Deep.Cut
namespace Go.Proofs.YtbfkkaafkinpmaaGreatDoor.line
open Go.ChangeShapes Go.WideShapes Go.ChangeAt Go.RowKit tree
set_option linter.unusedVariables false

set_option maxRecDepth 100000 in
set_option maxHeartbeats 4000000 in
theorem spec_sct (f : Nat) (t : T) (vs : List Value) (w : World) (h : LiesS w f vs (row t)) (hsz : size t ≤ 1099511627776) :
    Calls Tryz.prog 33 #[.agg vs.toArray] w fun e w' => e = .returned (.tuple #[.string (tellS t), .bool (tellF t).isSome]) ∧ Below w.heap.size w w' := by
  obtain ⟨k, fl, n, s, ks, kids⟩ := t
  have hl := h
  obtain ⟨A1, c1, A2, c2, rfl, wk, wn, hs, hc1, hc2, hr, hks, hc3, hc4, f', rfl, hk⟩ := open_tree h
  obtain ⟨w1, hw1⟩ : ∃ w1, w1 = w.alloc (.cells #[.int .i64 k, .bool fl, .int .i64 n, .string s, .slice A1 ks.length c1, .slice A2 kids.length c2] 30) := ⟨_, rfl⟩
  have hb1 : Below w.heap.size w w1 := by rw [hw1]; exact (Below.refl _ _).alloc (Nat.le_refl _) _
  have hrow1 : w1.heap[w.heap.size]? = some (.cells #[.int .i64 k, .bool fl, .int .i64 n, .string s, .slice A1 ks.length c1, .slice A2 kids.length c2] 30 (0, 0)) := by rw [hw1]; exact heap_alloc_new w _
  have HO := Lib.hid (spec_okay (f' + 1) _ _ w1 (hl.below hb1) hsz)
  have hbn := i64_bd wn
  have HD := Lib.hid (fun w => decimal.spec_any n w hbn.1 hbn.2)
  have Hb1 := Lib.hid hb1
  have Hrow1 := Lib.hid hrow1
  have Hw1 := Lib.hid hw1
  have Hl1 := Lib.hid (hl.below hb1)
  obtain ⟨p0, p1, p2, p3, p4, p5⟩ := Row6.of hrow1
  rw [hw1] at p0 p1 p2 p3 p4 p5
  unfold maxLen at hc4
  clear hl h hb1 hrow1 hw1 hr hks hk wk wn hc1 hc2
  by_cases hkid : 0 < kids.length
  · have e := tell_kids (k := k) (f := fl) (n := n) (s := s) (ks := ks) hkid
    have Hfin : Hid (tellS (T.mk k fl n s ks kids) = ⟨#[]⟩ ∧ (tellF (T.mk k fl n s ks kids)).isSome = false) := by unfold Hid tellS; rw [e]; exact ⟨rfl, rfl⟩
    clear e HO HD hbn
    go_enter Tryz.func33, Tryz.ntmps33
    go_wp2_with fail
    go_ret2
    exact ⟨by rw [Hfin.out.1, Hfin.out.2]; rfl, by rw [← Hw1.out]; exact Hb1.out⟩
  have hk0 : kids = [] := by
    cases kids with
    | nil => rfl
    | cons a r => exact absurd (Nat.succ_pos _) hkid
  by_cases hok : Ok (T.mk k fl n s ks kids)
  · rw [show dec (Ok (T.mk k fl n s ks kids)) = true by unfold dec; simp [hok]] at HO
    have hsh := hok.2.2
    rw [Shape] at hsh
    have hk1 := hsh.1.1
    have hk6 := hsh.1.2.1
    have hs400 := hsh.2.1.1
    have Hok : Hid (Ok (T.mk k fl n s ks [])) := by unfold Hid; rw [← hk0]; exact hok
    have He : Hid (tellF (T.mk k fl n s ks kids) = tellF (T.mk k fl n s ks [])) := by unfold Hid; rw [hk0]
    clear hok hsh hk0 hbn
    go_enter Tryz.func33, Tryz.ntmps33
    go_wp2_with fail
    rw [← Hw1.out]
    refine HO.out.mono ?_
    rintro e w2 ⟨rfl, hb2⟩
    have Hb2 := Lib.hid (below_link Hb1.out hb2 Hb1.out.size)
    have hrow2 := heap_kept hb2 (heap_lt Hrow1.out) Hrow1.out
    clear p0 p1 p2 p3 p4 p5 HO Hw1 Hb1 hb2 Hl1
    obtain ⟨p0, p1, p2, p3, p4, p5⟩ := Row6.of hrow2
    obtain rfl | rfl | rfl | rfl | rfl | rfl : k = 1 ∨ k = 2 ∨ k = 3 ∨ k = 4 ∨ k = 5 ∨ k = 6 := by omega
    · have Hf := Lib.hid (He.out.trans (tell_1 Hok.out))
      clear Hok He HD
      go_wp2_with fail
      go_ret2
      exact ⟨by unfold tellS; rw [Hf.out]; rfl, Hb2.out⟩
    · have Hf := Lib.hid (He.out.trans (tell_2 Hok.out))
      clear Hok He HD
      cases fl with
      | true =>
        go_wp2_with fail
        go_ret2
        exact ⟨by unfold tellS; rw [Hf.out]; rfl, Hb2.out⟩
      | false =>
        go_wp2_with fail
        go_ret2
        exact ⟨by unfold tellS; rw [Hf.out]; rfl, Hb2.out⟩
    · have Hf := Lib.hid (He.out.trans (tell_3 Hok.out))
      clear Hok He
      obtain ⟨d, hd⟩ : ∃ d : ByteArray, d = ⟨(Lib.itoa n).toArray⟩ := ⟨_, rfl⟩
      have Hf2 : Hid (tellF (T.mk 3 fl n s ks kids) = some d) := by unfold Hid; rw [hd]; exact Hf.out
      rw [← hd] at HD
      clear Hf hd
      go_wp2_with fail
      refine (HD.out _).mono ?_
      rintro e w3 ⟨rfl, hb3⟩
      have Hb3 := Lib.hid (below_link Hb2.out hb3 Hb2.out.size)
      clear hb3 Hb2 HD
      go_wp2_with fail
      go_ret2
      exact ⟨by unfold tellS; rw [Hf2.out]; rfl, Hb3.out⟩
    · have Hf := Lib.hid (He.out.trans (tell_4 Hok.out))
      have HK := Lib.hid (fun w => spec_kt s w (by omega))
      clear Hok He HD
      generalize keyT s = d at HK Hf
      go_wp2_with fail
      refine (HK.out _).mono ?_
      rintro e w3 ⟨rfl, hb3⟩
      have Hb3 := Lib.hid (below_link Hb2.out hb3 Hb2.out.size)
      clear hb3 Hb2 HK
      go_wp2_with fail
      go_ret2
      exact ⟨by unfold tellS; rw [Hf.out]; rfl, Hb3.out⟩
    · have Hf := Lib.hid (He.out.trans (tell_5 Hok.out))
      clear Hok He HD
      go_wp2_with fail
      go_ret2
      exact ⟨by unfold tellS; rw [Hf.out]; rfl, Hb2.out⟩
    · have Hf := Lib.hid (He.out.trans (tell_6 Hok.out))
      clear Hok He HD
      go_wp2_with fail
      go_ret2
      exact ⟨by unfold tellS; rw [Hf.out]; rfl, Hb2.out⟩
  · rw [show dec (Ok (T.mk k fl n s ks kids)) = false by unfold dec; simp [hok]] at HO
    have e := tell_bad hok
    have Hfin : Hid (tellS (T.mk k fl n s ks kids) = ⟨#[]⟩ ∧ (tellF (T.mk k fl n s ks kids)).isSome = false) := by unfold Hid tellS; rw [e]; exact ⟨rfl, rfl⟩
    clear e hok hk0 HD hbn
    go_enter Tryz.func33, Tryz.ntmps33
    go_wp2_with fail
    rw [← Hw1.out]
    refine HO.out.mono ?_
    rintro e w2 ⟨rfl, hb2⟩
    have Hb2 := Lib.hid (below_link Hb1.out hb2 Hb1.out.size)
    clear p0 p1 p2 p3 p4 p5 HO Hw1 Hb1 hb2 Hl1
    go_wp2_with fail
    go_ret2
    exact ⟨by rw [Hfin.out.1, Hfin.out.2]; rfl, Hb2.out⟩
end Go.Proofs.YtbfkkaafkinpmaaGreatDoor.line
namespace Go.Proofs.YtbfkkaafkinpmaaGreatDoor.ind
open Go.ChangeShapes Go.WideShapes Go.ChangeAt Go.RowKit tree line
set_option linter.unusedVariables false

def LinS (f : Nat) : Prop := ∀ (t : T) (vs : List Value) (w : World), LiesS w f vs (row t) → Shape t → size t ≤ 4096 → depth t ≤ 4096 → Calls Tryz.prog 19 #[.agg vs.toArray] w (OutL w (linesF t))
set_option maxRecDepth 1000000 in
set_option maxHeartbeats 8000000 in
theorem lines_leafS (f : Nat) (k : Int) (fl : Bool) (n : Int) (s : ByteArray) (ks : List ByteArray) (kids : List T) (A1 A2 : Option Addr) (c1 c2 : Nat) (w : World) (hl : LiesS w (f + 1) [.int .i64 k, .bool fl, .int .i64 n, .string s, .slice A1 ks.length c1, .slice A2 kids.length c2] (row (.mk k fl n s ks kids))) (h0 : kids.length = 0) (hsz : size (.mk k fl n s ks kids) ≤ 4096) :
    Calls Tryz.prog 19 #[.agg #[.int .i64 k, .bool fl, .int .i64 n, .string s, .slice A1 ks.length c1, .slice A2 kids.length c2]] w (OutL w (linesF (.mk k fl n s ks kids))) := by
  obtain ⟨i0, hi, hz0, hz1, hz2⟩ := info_parts TryzinfoStr'
  obtain ⟨w1, hw1⟩ : ∃ w1, w1 = w.alloc (.cells #[.int .i64 k, .bool fl, .int .i64 n, .string s, .slice A1 ks.length c1, .slice A2 kids.length c2] 30) := ⟨_, rfl⟩
  have hb1 : Below w.heap.size w w1 := by rw [hw1]; exact alloc_below _ _
  have hbox1 : w1.heap[w.heap.size]? = some (.cells #[.int .i64 k, .bool fl, .int .i64 n, .string s, .slice A1 ks.length c1, .slice A2 kids.length c2] 30 (0, 0)) := by rw [hw1]; exact heap_alloc_new w _
  obtain ⟨w2, hw2⟩ : ∃ w2, w2 = w1.alloc (.cells #[] 9) := ⟨_, rfl⟩
  have hb2 : Below w1.heap.size w1 w2 := by rw [hw2]; exact alloc_below _ _
  have hown2 : w2.ownsRow w1.heap.size 9 1 (.slice (some ⟨w.heap.size + 1, 0, none⟩) 0 0) 0 (scells []) := by
    have e : w.heap.size + 1 = w1.heap.size := by rw [hw1]; simp
    rw [e, hw2]; exact World.ownsRow_lit w1 #[] 0 (Nat.le_refl _) (by simp [maxLen]) rfl
  have HC := Lib.hid (spec_sct (f + 1) _ _ w2 ((hl.below hb1).below hb2) (by omega))
  have Hown2 := Lib.hid hown2
  have Hb1 := Lib.hid hb1
  have Hb2 := Lib.hid hb2
  have Hw1 := Lib.hid hw1
  have Hw2 := Lib.hid hw2
  have hbox2 := heap_kept hb2 (heap_lt hbox1) hbox1
  rw [lines_leaf h0]
  generalize tellS (.mk k fl n s ks kids) = y at HC ⊢
  generalize (tellF (.mk k fl n s ks kids)).isSome = b at HC
  clear hl hb1 hb2 hown2 hw1 hw2
  have en : ((kids.length : Int) == 0) = true := by rw [h0]; rfl
  clear h0
  go_enter Tryz.func19, Tryz.ntmps19
  go_upto_region 2 with fail
  rw [← Hw1.out, ← Hw2.out]
  clear Hw1 Hw2 hbox1
  obtain ⟨p0, p1, p2, p3, p4, p5⟩ := Row6.of hbox2
  clear hbox2
  go_wp2_with fail
  refine HC.out.mono ?_
  rintro e w3 ⟨rfl, hb3⟩
  have hown3 := own_below Hown2.out hb3
  have Hb3 := Lib.hid (below_link Hb2.out hb3 Hb2.out.size)
  have hsz3 : w1.heap.size ≤ w3.heap.size := Hb3.out.size
  clear HC hb3 p0 p1 p2 p3 p4 p5 en Hown2 Hb2
  go_wp2_with (first | (at_builtin; refine wpList_append_own_at _ rfl (.tmp 20) (.tmp 22) 22 rfl w1.heap.size 9 i0 (.string ⟨#[]⟩) 1 16 Tryz.underlying22 hi hz0 hz1 hz2 rfl (by decide) _ 0 _ rfl (hown3.alloc _) ⟨w3.heap.size, 0, none⟩ 1 1 [.string y] rfl rfl (by exact lit_cells _ _ _) (by intro u hu; simp at hu; subst hu; rfl) (by unfold maxLen; omega) (by omega) (by simp; omega) ?_) | fail)
  intro v4 w4 hown4 hg4 _ _
  have Hb4 := Lib.hid ((Hb3.out.alloc hsz3 _).grown hg4 (by simp; omega) (fun b hb => (hown3.lt b hb).1))
  have Hown4 := Lib.hid (own_snoc hown4)
  clear hown4 hg4 hown3
  go_wp2_with fail
  go_ret
  exact ⟨_, rfl, own_lower Hown4.out Hb1.out.size, below_link Hb1.out Hb4.out Hb1.out.size⟩
theorem kid_kind (k : Int) (f : Bool) (n : Int) (s : ByteArray) (ks : List ByteArray) (kids : List T) : (kids.length = 0 → (∃ y, linesF (.mk k f n s ks kids) = [y]) ∧ (T.mk k f n s ks kids).kids = []) ∧ (¬ kids.length = 0 → (T.mk k f n s ks kids).kids ≠ []) :=
  ⟨fun h => ⟨⟨_, lines_leaf h⟩, List.eq_nil_of_length_eq_zero h⟩, fun h e => h (by rw [show kids = [] from e]; rfl)⟩
set_option maxRecDepth 1000000 in
set_option maxHeartbeats 16000000 in
theorem lines_listS (f : Nat) (IH0 : LinS f) (k : Int) (hk6 : k ≠ 6) (fl : Bool) (n : Int) (s : ByteArray) (ks : List ByteArray) (kids : List T) (A1 A2 : Option Addr) (c1 c2 : Nat) (w : World) (hk : KidsAt w f A2 kids) (hr : Rd w A1 ks.length (scells ks)) (hc1 : ks.length ≤ c1) (hc2 : c1 ≤ maxLen) (hc3 : kids.length ≤ c2) (hc4 : c2 ≤ maxLen) (hkd : ∀ x ∈ kids, Shape x) (hnd : ∀ x ∈ kids, say.Nums x) (h0 : ¬ kids.length = 0) (hsz : sizes kids ≤ 4096) (hdp : depths kids ≤ 4096) (hall : (listL kids).length ≤ 4096) :
    Calls Tryz.prog 19 #[.agg #[.int .i64 k, .bool fl, .int .i64 n, .string s, .slice A1 ks.length c1, .slice A2 kids.length c2]] w (OutL w (listL kids)) := by
  obtain ⟨i0, hi, hz0, hz1, hz2⟩ := info_parts TryzinfoStr'
  have IH := Lib.hid IH0
  clear IH0
  obtain ⟨w1, hw1⟩ : ∃ w1, w1 = w.alloc (.cells #[.int .i64 k, .bool fl, .int .i64 n, .string s, .slice A1 ks.length c1, .slice A2 kids.length c2] 30) := ⟨_, rfl⟩
  have hb1 : Below w.heap.size w w1 := by rw [hw1]; exact alloc_below _ _
  have hbox1 : w1.heap[w.heap.size]? = some (.cells #[.int .i64 k, .bool fl, .int .i64 n, .string s, .slice A1 ks.length c1, .slice A2 kids.length c2] 30 (0, 0)) := by rw [hw1]; exact heap_alloc_new w _
  obtain ⟨w2, hw2⟩ : ∃ w2, w2 = w1.alloc (.cells #[] 9) := ⟨_, rfl⟩
  have hb2 : Below w1.heap.size w1 w2 := by rw [hw2]; exact alloc_below _ _
  have hown2 : w2.ownsRow w1.heap.size 9 1 (.slice (some ⟨w.heap.size + 1, 0, none⟩) 0 0) 0 (scells []) := by
    have e : w.heap.size + 1 = w1.heap.size := by rw [hw1]; simp
    rw [e, hw2]; exact World.ownsRow_lit w1 #[] 0 (Nat.le_refl _) (by simp [maxLen]) rfl
  have Hown2 := Lib.hid hown2
  have Hb1 := Lib.hid hb1
  have Hb2 := Lib.hid hb2
  have Hw1 := Lib.hid hw1
  have Hw2 := Lib.hid hw2
  have Hbox1 := Lib.hid hbox1
  have Hk := Lib.hid (hk.below hb1)
  have Hr := Lib.hid (hr.below hb1)
  have Hkd := Lib.hid hkd
  have Hnd := Lib.hid hnd
  have Hsz := Lib.hid hsz
  have Hdp := Lib.hid hdp
  have Hall := Lib.hid hall


  have hbox2 := heap_kept hb2 (heap_lt hbox1) hbox1
  have hn4 : kids.length ≤ 4096 := Nat.le_trans (len_le_sizes kids) hsz
  unfold maxLen at hc2 hc4
  clear hk hr hkd hnd hsz hdp hall hb1 hb2 hown2 hw1 hw2 hbox1 
  have en : ((kids.length : Int) == 0) = false := by rw [beq_eq_false_iff_ne]; omega
  have e6 : (k == 6) = false := beq_eq_false_iff_ne.2 hk6
  go_enter Tryz.func19, Tryz.ntmps19
  go_upto_region 2 with fail
  rw [← Hw1.out, ← Hw2.out]
  clear Hw1 Hw2
  obtain ⟨p0, p1, p2, p3, p4, p5⟩ := Row6.of hbox2
  clear hbox2
  go_wp2_with fail
  clear p0 p1 p2 p3 p4 p5 en
  go_loopw [3, 6] (fun v i wr => ∃ (j m : Nat) (l : List ByteArray), j ≤ kids.length ∧ i = .int .i64 j ∧ Hid (l.length = m) ∧ m ≤ 4096 ∧ Hid (l = listL (kids.take j)) ∧ wr.ownsRow w1.heap.size 9 1 v m (scells l) ∧ Below w1.heap.size w1 wr) (fun _ i _ => kids.length - (intOf i).toNat)
  case atStart => exact ⟨0, 0, [], Nat.zero_le _, rfl, rfl, Nat.zero_le _, rfl, Hown2.out, Hb2.out⟩
  case round =>
    clear Hown2 Hb2
    obtain ⟨j, m, l, hj, rfl, hlm, hm4, hl, hown, hbel⟩ := hrel
    have hszr := hbel.size
    obtain ⟨p0, p1, p2, p3, p4, p5⟩ := Row6.of (heap_kept hbel (heap_lt Hbox1.out) Hbox1.out)
    by_cases hlt : j < kids.length
    · obtain ⟨g, o, rfl, hg, hkid⟩ := Hk.out (by omega)
      have hmem : kids[j] ∈ kids := List.getElem_mem hlt
      obtain ⟨u0, u1, u2, u3, u4, u5, hsix, hls⟩ := hkid j kids[j] (List.getElem?_eq_getElem hlt)
      have hsk : size kids[j] ≤ 4096 := Nat.le_trans (sizes_le_mem hmem) Hsz.out
      have hdk : depth kids[j] ≤ 4096 := Nat.le_trans (depths_mem hmem) Hdp.out
      have HC := Lib.hid (fun w' (hb : Below w1.heap.size w1 w') => IH.out kids[j] _ w' (hls.below hb) (Hkd.out _ hmem) hsk hdk)
      have hl4 : (linesF kids[j]).length ≤ 4096 := Nat.le_trans (lines_count _) hsk
      have hXle := listL_take_le kids (j + 1)
      have hX := listL_take hlt
      have HX := Lib.hid hX
      have hXl : (listL (kids.take (j + 1))).length ≤ 4096 := Nat.le_trans hXle Hall.out
      have hlw := (line_le kids[j] (Hkd.out _ hmem) (Hnd.out _ hmem)).1
      have Hlw := Lib.hid (show ∀ x ∈ linesF kids[j], x.size ≤ 16384 from fun x hx => by have := hlw x hx; omega)
      have Hl := Lib.hid hl.out
      have Hlm := Lib.hid hlm.out
      obtain ⟨q0, q1, q2, q3, q4, q5⟩ := hsix.block (hbel.block g hg)
      have Hsix := Lib.hid hsix
      have Hg := Lib.hid hg
      clear hlm hl hXle hX hlw hsk hdk
      generalize kids[j] = x at HC HX Hlw hl4
      clear hkid hls hmem hsix
      go_wp2_with fail
      refine (HC.out wr hbel).mono ?_
      rintro e w7 ⟨v7, rfl, hown7, hb7⟩
      obtain ⟨A7, c7, rfl⟩ := own_is_slice hown7
      have hbs7 := Beside.of hown hown7
      obtain ⟨_, _, hA7, hc7, hm7, _⟩ := Rd.of_own hown7
      have hc7' : (linesF x).length ≤ c7 := by injection hA7 with _ _ h3; omega
      have hownv := own_below hown hb7
      have hbel7 := below_link hbel hb7 hszr
      have Hx7 := Lib.hid (heap_kept hbel7 (heap_lt Hbox1.out) Hbox1.out)
      have hsz7 := hbel7.size
      clear HC hown hown7 hb7 hbel hA7 hm7 p0 p1 p2 p3 p4 p5 q0 q1 q2 q3 q4 q5 hszr
      obtain ⟨p0, p1, p2, p3, p4, p5⟩ := Row6.of Hx7.out
      obtain ⟨q0, q1, q2, q3, q4, q5⟩ := Hsix.out.block (hbel7.block g Hg.out)
      generalize hls : linesF x = ls at hbs7 hc7' Hlw HX hl4
      clear hls
      have Hlb := Lib.hid Hlm.out
      have Hcnt := Lib.hid (show l.length + ls.length ≤ 4096 by
        have h1 := congrArg List.length HX.out
        rw [List.length_append, hang_length] at h1
        rw [Hl.out]; omega)
      clear Hlm
      go_wp2_with fail
      clear p0 p1 p2 p3 p4 p5 q0 q1 q2 q3 q4 q5 hXl
      go_loopw [3, 8, 9] (fun v h q wq => ∃ (k m' : Nat) (l' : List ByteArray), k ≤ ls.length ∧ q = .int .i64 k ∧ h = .string (if k = 0 then dash else two) ∧ Hid (l'.length = m') ∧ m' ≤ 4096 ∧ Hid (l' = l ++ (hang dash ls).take k) ∧ wq.ownsRow w1.heap.size 9 1 v m' (scells l') ∧ Beside wq v A7 ls.length (scells ls) ∧ Below w1.heap.size w1 wq) (fun _ _ q _ => ls.length - (intOf q).toNat)
      case atStart => exact ⟨0, _, l, Nat.zero_le _, rfl, rfl, Hlb.out, hm4, by simp [Hid], hownv, hbs7, hbel7⟩
      case round =>
        clear hownv hbs7 hbel7
        obtain ⟨k', m', l', hk', rfl, rfl, hlm', hm4', hl', hown', hbs', hbel'⟩ := hrel
        have hszq := hbel'.size
        obtain ⟨hd, hhd⟩ : ∃ hd, (if k' = 0 then dash else two) = hd := ⟨_, rfl⟩
        rw [hhd]
        by_cases hlt' : k' < ls.length
        · have hst := hang_step (h := dash) (l := l) hlt'
          have Hst := Lib.hid (show l ++ (hang dash ls).take (k' + 1) = l' ++ [(if k' = 0 then dash else two) ++ ls[k']] by rw [hst, hl'.out])
          have hroom : l'.length + 1 ≤ 4096 := by
            have h1 := congrArg List.length Hst.out
            have h2 := hang_take_le dash ls (k' + 1)
            have h5 := Hcnt.out
            simp only [List.length_append, List.length_singleton] at h1
            try simp only [List.length_append, List.length_singleton] at h5
            omega
          have hm5 : m' + 1 ≤ 4096 := by rw [← hlm'.out]; exact hroom
          have Hlm' := Lib.hid hlm'.out
          obtain ⟨g7, o7, rfl, hg7, hc70⟩ := hbs'.1.2 (by omega)
          have hcell := hc70 k' hlt' _ (scells_get ls k' hlt')
          have hyz := Hlw.out ls[k'] (List.getElem_mem hlt')
          have Hbs' := Lib.hid hbs'
          clear hst hlm' hl' hroom hc70 hm4'
          generalize ls[k'] = y at hcell hyz Hst
          have hhz : hd.size ≤ 2 := by rw [← hhd]; split <;> decide
          rw [hhd] at Hst
          clear hhd
          have hadd : ¬ 9223372036854775807 < hd.size + y.size := by omega
          go_wp2_with (first | (at_builtin; refine wpList_append_own_at _ rfl (.tmp 78) (.tmp 85) 22 rfl w1.heap.size 9 i0 (.string ⟨#[]⟩) 1 16 Tryz.underlying22 hi hz0 hz1 hz2 rfl (by decide) _ m' _ rfl (hown'.alloc _) ⟨wr.heap.size, 0, none⟩ 1 1 [.string (hd ++ y)] rfl rfl (by exact lit_cells _ _ _) (by intro u hu; simp at hu; subst hu; rfl) (by unfold maxLen; omega) (by omega) (by simp; omega) ?_) | fail)
          intro v4 w4 hown4 hg4 _ hat4
          have Hb4 := Lib.hid ((hbel'.alloc hszq _).grown hg4 (by simp; omega) (fun b hb => (hown'.lt b hb).1))
          have Hown4 := Lib.hid (own_snoc hown4)
          have Hbs4 := Lib.hid (Beside.grown (v' := v4) (Hbs'.out.below (alloc_below wr (.cells #[.string (hd ++ y)] 9))) hg4 (by rw [World.size_alloc]; exact hat4))
          clear hown4 hg4 hat4 hown' hbel' Hbs' hcell
          go_wp2_with fail
          go_roundw
          case rel => exact ⟨k' + 1, m' + 1, l' ++ [hd ++ y], by omega, by go_num, by simp [two], by unfold Hid; rw [List.length_append, Hlm'.out]; rfl, hm5, by unfold Hid; rw [Hst.out], Hown4.out, Hbs4.out, Hb4.out⟩
          case measure => simp [intOf]; omega
        · clear hhd
          obtain rfl : k' = ls.length := by omega
          rw [hang_done] at hl'
          have Hlm' := Lib.hid hlm'.out
          have Hl' := Lib.hid hl'.out
          have Hown' := Lib.hid hown'
          have Hbel' := Lib.hid hbel'
          clear hlm' hl' hown' hbel' hbs'
          go_wp2_with fail
          go_roundw
          case rel => exact ⟨j + 1, m', l', by omega, by go_num, Hlm'.out, hm4', by unfold Hid; rw [Hl'.out, HX.out, Hl.out], Hown'.out, Hbel'.out⟩
          case measure => simp [intOf]; omega
    · obtain rfl : j = kids.length := by omega
      have Hl9 := Lib.hid (show l = listL kids by rw [hl.out, List.take_length])
      have Hlm := Lib.hid hlm.out
      have Hown := Lib.hid hown
      have Hbel := Lib.hid hbel
      clear hl hlm hown hbel
      go_wp2_with fail
      go_ret
      exact ⟨_, rfl, by rw [← Hl9.out, Hlm.out]; exact own_lower Hown.out Hb1.out.size, below_link Hb1.out Hbel.out Hb1.out.size⟩
set_option maxRecDepth 1000000 in
set_option maxHeartbeats 16000000 in
theorem lines_mapS (f : Nat) (IH0 : LinS f) (fl : Bool) (n : Int) (s : ByteArray) (ks : List ByteArray) (kids : List T) (A1 A2 : Option Addr) (c1 c2 : Nat) (w : World) (hk : KidsAt w f A2 kids) (hr : Rd w A1 ks.length (scells ks)) (hc1 : ks.length ≤ c1) (hc2 : c1 ≤ maxLen) (hc3 : kids.length ≤ c2) (hc4 : c2 ≤ maxLen) (hkl : ks.length = kids.length) (hko : KeysOk ks) (hkd : ∀ x ∈ kids, Shape x) (hnd : ∀ x ∈ kids, say.Nums x) (h0 : ¬ kids.length = 0) (hsz : sizes kids ≤ 4096) (hdp : depths kids ≤ 4096) (hall : (mapL ks kids).length ≤ 4096) :
    Calls Tryz.prog 19 #[.agg #[.int .i64 6, .bool fl, .int .i64 n, .string s, .slice A1 ks.length c1, .slice A2 kids.length c2]] w (OutL w (mapL ks kids)) := by
  obtain ⟨i0, hi, hz0, hz1, hz2⟩ := info_parts TryzinfoStr'
  have IH := Lib.hid IH0
  clear IH0
  obtain ⟨w1, hw1⟩ : ∃ w1, w1 = w.alloc (.cells #[.int .i64 6, .bool fl, .int .i64 n, .string s, .slice A1 ks.length c1, .slice A2 kids.length c2] 30) := ⟨_, rfl⟩
  have hb1 : Below w.heap.size w w1 := by rw [hw1]; exact alloc_below _ _
  have hbox1 : w1.heap[w.heap.size]? = some (.cells #[.int .i64 6, .bool fl, .int .i64 n, .string s, .slice A1 ks.length c1, .slice A2 kids.length c2] 30 (0, 0)) := by rw [hw1]; exact heap_alloc_new w _
  obtain ⟨w2, hw2⟩ : ∃ w2, w2 = w1.alloc (.cells #[] 9) := ⟨_, rfl⟩
  have hb2 : Below w1.heap.size w1 w2 := by rw [hw2]; exact alloc_below _ _
  have hown2 : w2.ownsRow w1.heap.size 9 1 (.slice (some ⟨w.heap.size + 1, 0, none⟩) 0 0) 0 (scells []) := by
    have e : w.heap.size + 1 = w1.heap.size := by rw [hw1]; simp
    rw [e, hw2]; exact World.ownsRow_lit w1 #[] 0 (Nat.le_refl _) (by simp [maxLen]) rfl
  have Hown2 := Lib.hid hown2
  have Hb1 := Lib.hid hb1
  have Hb2 := Lib.hid hb2
  have Hw1 := Lib.hid hw1
  have Hw2 := Lib.hid hw2
  have Hbox1 := Lib.hid hbox1
  have Hk := Lib.hid (hk.below hb1)
  have Hr := Lib.hid (hr.below hb1)
  have Hkd := Lib.hid hkd
  have Hnd := Lib.hid hnd
  have Hsz := Lib.hid hsz
  have Hdp := Lib.hid hdp
  have Hall := Lib.hid hall
  have Hko := Lib.hid hko
  have Hkl := Lib.hid hkl
  have hbox2 := heap_kept hb2 (heap_lt hbox1) hbox1
  have hn4 : kids.length ≤ 4096 := Nat.le_trans (len_le_sizes kids) hsz
  unfold maxLen at hc2 hc4
  clear hk hr hkd hnd hsz hdp hall hb1 hb2 hown2 hw1 hw2 hbox1 hko hkl
  have en : ((kids.length : Int) == 0) = false := by rw [beq_eq_false_iff_ne]; omega

  go_enter Tryz.func19, Tryz.ntmps19
  go_upto_region 2 with fail
  rw [← Hw1.out, ← Hw2.out]
  clear Hw1 Hw2
  obtain ⟨p0, p1, p2, p3, p4, p5⟩ := Row6.of hbox2
  clear hbox2
  go_wp2_with fail
  clear p0 p1 p2 p3 p4 p5 en
  go_loopw [3, 6] (fun v i wr => ∃ (j m : Nat) (l : List ByteArray), j ≤ kids.length ∧ i = .int .i64 j ∧ Hid (l.length = m) ∧ m ≤ 4096 ∧ Hid (l = mapL (ks.take j) (kids.take j)) ∧ wr.ownsRow w1.heap.size 9 1 v m (scells l) ∧ Below w1.heap.size w1 wr) (fun _ i _ => kids.length - (intOf i).toNat)
  case atStart => exact ⟨0, 0, [], Nat.zero_le _, rfl, rfl, Nat.zero_le _, by simp [Hid, mapL], Hown2.out, Hb2.out⟩
  case round =>
    clear Hown2 Hb2
    obtain ⟨j, m, l, hj, rfl, hlm, hm4, hl, hown, hbel⟩ := hrel
    have hszr := hbel.size
    obtain ⟨p0, p1, p2, p3, p4, p5⟩ := Row6.of (heap_kept hbel (heap_lt Hbox1.out) Hbox1.out)
    by_cases hlt : j < kids.length
    · obtain ⟨g, o, rfl, hg, hkid⟩ := Hk.out (by omega)
      have hmem : kids[j] ∈ kids := List.getElem_mem hlt
      obtain ⟨u0, u1, u2, u3, u4, u5, hsix, hls⟩ := hkid j kids[j] (List.getElem?_eq_getElem hlt)
      have hsk : size kids[j] ≤ 4096 := Nat.le_trans (sizes_le_mem hmem) Hsz.out
      have hdk : depth kids[j] ≤ 4096 := Nat.le_trans (depths_mem hmem) Hdp.out
      have HC := Lib.hid (fun w' (hb : Below w1.heap.size w1 w') => IH.out kids[j] _ w' (hls.below hb) (Hkd.out _ hmem) hsk hdk)
      have hl4 : (linesF kids[j]).length ≤ 4096 := Nat.le_trans (lines_count _) hsk
      have hXle := mapL_take_le ks kids (j + 1)
      have hX := mapL_take Hkl.out hlt
      have HX := Lib.hid hX
      have hXl : (mapL (ks.take (j + 1)) (kids.take (j + 1))).length ≤ 4096 := Nat.le_trans hXle Hall.out
      have hlw := (line_le kids[j] (Hkd.out _ hmem) (Hnd.out _ hmem)).1
      have Hlw := Lib.hid (show ∀ x ∈ linesF kids[j], x.size ≤ 16384 from fun x hx => by have := hlw x hx; omega)
      have Hl := Lib.hid hl.out
      have Hlm := Lib.hid hlm.out
      obtain ⟨q0, q1, q2, q3, q4, q5⟩ := hsix.block (hbel.block g hg)
      have Hsix := Lib.hid hsix
      have Hg := Lib.hid hg
      clear hlm hl hXle hX hlw hsk hdk
      have hltk : j < ks.length := by have := Hkl.out; omega
      obtain ⟨gk, ok, rfl, hgk, hck⟩ := Hr.out.2 (by omega)
      have Hcell := Lib.hid (hck j hltk _ (scells_get ks j hltk))
      have Hgk := Lib.hid hgk
      have hkt : TextOk ks[j] := by
        have := (Hko.out j hltk).1
        rwa [List.getD_eq_getElem?_getD, List.getElem?_eq_getElem hltk] at this
      have Hkz := Lib.hid (key_le hkt)
      have HK := Lib.hid (fun w' => spec_kt ks[j] w' (Nat.le_trans hkt.1 (by omega)))
      generalize kids[j] = x at HC HX Hlw hls hmem hl4
      generalize ks[j] = key at HK Hcell Hkz HX hkt
      obtain ⟨kx, fx, nx, sx, ksx, kk⟩ := x
      obtain ⟨B1, d1, B2, d2, hu, _, _, _, _, _, _, _, hd3, hd4, _⟩ := open_tree hls
      obtain ⟨rfl, rfl, rfl, rfl, rfl, rfl⟩ : u0 = .int .i64 kx ∧ u1 = .bool fx ∧ u2 = .int .i64 nx ∧ u3 = .string sx ∧ u4 = .slice B1 ksx.length d1 ∧ u5 = .slice B2 kk.length d2 := by
        injection hu with a0 hu; injection hu with a1 hu; injection hu with a2 hu; injection hu with a3 hu; injection hu with a4 hu; injection hu with a5 hu
        exact ⟨a0, a1, a2, a3, a4, a5⟩
      have Hlf := Lib.hid (kid_kind kx fx nx sx ksx kk)
      unfold maxLen at hd4
      generalize (T.mk kx fx nx sx ksx kk) = x at HC HX Hlw Hlf hl4
      clear hls hu hck hgk hkt hmem hkid hsix
      go_wp2_with fail
      refine (HC.out wr hbel).mono ?_
      rintro e w7 ⟨v7, rfl, hown7, hb7⟩
      obtain ⟨A7, c7, rfl⟩ := own_is_slice hown7
      have hbs7 := Beside.of hown hown7
      obtain ⟨_, _, hA7, hc7, hm7, _⟩ := Rd.of_own hown7
      have hc7' : (linesF x).length ≤ c7 := by injection hA7 with _ _ h3; omega
      have hownv := own_below hown hb7
      have hbel7 := below_link hbel hb7 hszr
      have Hx7 := Lib.hid (heap_kept hbel7 (heap_lt Hbox1.out) Hbox1.out)
      have hsz7 := hbel7.size
      clear HC hown hown7 hb7 hbel hA7 hm7 p0 p1 p2 p3 p4 p5 q0 q1 q2 q3 q4 q5 hszr
      obtain ⟨p0, p1, p2, p3, p4, p5⟩ := Row6.of Hx7.out
      obtain ⟨q0, q1, q2, q3, q4, q5⟩ := Hsix.out.block (hbel7.block g Hg.out)
      generalize hls : linesF x = ls at hbs7 hc7' Hlw HX hl4
      have hcell : w7.cell? ⟨gk, ok + j, none⟩ = some (.string key) := (hbel7.cell (p := ⟨gk, ok + j, none⟩) Hgk.out).trans Hcell.out
      generalize hkk0 : keyT key = kt at HK Hkz
      have hkz := Hkz.out
      have Hkt := Lib.hid hkk0
      have Hbs7 := Lib.hid hbs7
      have Hownv := Lib.hid hownv
      clear hkk0 Hkz hbs7
      by_cases hkk : kk.length = 0
      · have ek : ((kk.length : Int) == 0) = true := by rw [hkk]; rfl
        obtain ⟨⟨y, hy⟩, hkids⟩ := Hlf.out.1 hkk
        rw [hls] at hy
        have hl1 : 0 < ls.length := by rw [hy]; simp
        have hli : (0 : Int) < (ls.length : Int) := by omega
        have hpl : pairL key x ls = [kt ++ colonSp ++ y] := by unfold pairL; rw [if_pos hkids, hy, Hkt.out]; rfl
        obtain ⟨g7, o7, rfl, hg7, hc70⟩ := Hbs7.out.1.2 hl1
        have hcell7 : w7.cell? ⟨g7, o7, none⟩ = some (.string y) := hc70 0 hl1 _ (by rw [hy]; rfl)
        have hyz := Hlw.out y (by rw [hy]; exact List.mem_singleton_self y)
        have Hst := Lib.hid (show mapL (ks.take (j + 1)) (kids.take (j + 1)) = l ++ [kt ++ colonSp ++ y] by rw [HX.out, hpl, Hl.out])
        have hm1 : m + 1 ≤ 4096 := by
          have h1 := congrArg List.length Hst.out
          have h2 := Hlm.out
          rw [List.length_append, List.length_singleton] at h1
          omega
        clear hkk hy hkids hpl hc70 hls hXl Hlw Hlf HX
        have hadd : ¬ 9223372036854775807 < kt.size + 2 := by omega
        have hkcz : (kt ++ ⟨#[58, 32]⟩ : ByteArray).size = kt.size + 2 := by rw [ByteArray.size_append]; rfl
        have hadd2 : ¬ 9223372036854775807 < (kt ++ ⟨#[58, 32]⟩ : ByteArray).size + y.size := by rw [hkcz]; omega
        have hadd3 : ¬ 9223372036854775807 < kt.size + 2 + y.size := by omega
        clear hkcz
        go_wp2_with fail
        go_region_law (first | (refine step_append_at rfl (.tmp 48) (.tmp 60) 22 rfl w1.heap.size 9 i0 (.string ⟨#[]⟩) 1 16 Tryz.underlying22 hi hz0 hz1 hz2 rfl (by decide) _ m _ rfl (hown8.alloc _) ⟨w8.heap.size, 0, none⟩ 1 1 [.string (kt ++ ⟨#[58, 32]⟩ ++ y)] rfl rfl (by exact lit_cells _ _ _) (by intro u hu; simp at hu; subst hu; rfl) (by unfold maxLen; omega) (by omega) (by simp; omega) ?_; intro v4 w4 hown4 hg4 hat4) | (go_simp; go_at_call 34; refine (HK.out _).mono ?_; rintro e w8 ⟨rfl, hb8⟩; have hb78 : Below w7.heap.size w7 w8 := (Below.refl _ _).drew.trans (hb8.mono (Nat.le_refl _)); have hown8 := own_below Hownv.out hb78; have hcell8 : w8.cell? ⟨g7, o7, none⟩ = some (.string y) := (hb78.cell (p := ⟨g7, o7, none⟩) hg7).trans hcell7; have hb18 := below_link hbel7 hb78 hsz7; have hsz8 := hb18.size))
        all_goals
          have Hb4 := Lib.hid ((hb18.alloc hsz8 _).grown hg4 (by simp; omega) (fun b hb => (hown8.lt b hb).1))
          have Hown4 := Lib.hid (own_snoc hown4)
          clear hown4 hg4 hat4 hown8 hcell8 hb18 hsz8 hb78 hb8
          go_wp2_with fail
          go_roundw
          case rel => exact ⟨j + 1, m + 1, _, by omega, by go_num, by unfold Hid; rw [List.length_append, Hlm.out]; rfl, hm1, Hst.out.symm, Hown4.out, Hb4.out⟩
          case measure => simp [intOf]; omega
      · have ek : ((kk.length : Int) == 0) = false := by rw [beq_eq_false_iff_ne]; omega
        have hne := Hlf.out.2 hkk
        have hpl : pairL key x ls = (kt ++ colon) :: ls.map (two ++ ·) := by unfold pairL; rw [if_neg hne, Hkt.out]
        rw [hpl] at HX
        have Hcnt := Lib.hid (show (l ++ [kt ++ colon]).length + ls.length ≤ 4096 by
          have h1 := congrArg List.length HX.out
          rw [List.length_append, List.length_cons, List.length_map] at h1
          rw [List.length_append, List.length_singleton, Hl.out]; omega)
        have Hlb := Lib.hid (show (l ++ [kt ++ colon]).length = m + 1 by rw [List.length_append, Hlm.out]; rfl)
        have hm1 : m + 1 ≤ 4096 := by
          have := Hcnt.out
          have := Hlb.out
          omega
        have hadd : ¬ 9223372036854775807 < kt.size + 1 := by omega
        have hnk : ¬ (kk.length = 0) := hkk
        clear hkk hne hpl hls hXl Hlf
        go_wp2_with fail
        refine (HK.out _).mono ?_
        rintro e w8 ⟨rfl, hb8⟩
        have hown8 := own_below Hownv.out hb8
        have Hbs8 := Lib.hid (Hbs7.out.below hb8)
        have hb18 := below_link hbel7 hb8 hsz7
        have hsz8 := hb18.size
        clear Hownv Hbs7 hb8 HK
        clear p0 p1 p2 p3 p4 p5 q0 q1 q2 q3 q4 q5 hcell
        go_wp2_with (first | (at_builtin; refine wpList_append_own_at _ rfl (.tmp 62) (.tmp 70) 22 rfl w1.heap.size 9 i0 (.string ⟨#[]⟩) 1 16 Tryz.underlying22 hi hz0 hz1 hz2 rfl (by decide) _ m _ rfl (hown8.alloc _) ⟨w8.heap.size, 0, none⟩ 1 1 [.string (kt ++ ⟨#[58]⟩)] rfl rfl (by exact lit_cells _ _ _) (by intro u hu; simp at hu; subst hu; rfl) (by unfold maxLen; omega) (by omega) (by simp; omega) ?_) | fail)
        intro v4 w4 hown4 hg4 _ hat4
        have hb4 := (hb18.alloc hsz8 _).grown hg4 (by simp; omega) (fun b hb => (hown8.lt b hb).1)
        have hown5 : w4.ownsRow w1.heap.size 9 1 v4 (m + 1) (scells (l ++ [kt ++ colon])) := own_snoc hown4
        have hbs4 := Beside.grown (v' := v4) (Hbs8.out.below (alloc_below w8 (.cells #[.string (kt ++ ⟨#[58]⟩)] 9))) hg4 (by rw [World.size_alloc]; exact hat4)
        have Hb4 := Lib.hid hb4
        have Hown4 := Lib.hid hown5
        have Hbs4 := Lib.hid hbs4
        clear hown4 hg4 hat4 hown8 hb18 hsz8 Hbs8 hb4 hown5 hbs4
        go_wp2_with fail
        go_loopw [3, 8, 9] (fun v h q wq => ∃ (k m' : Nat) (l' : List ByteArray), k ≤ ls.length ∧ q = .int .i64 k ∧ h = .string (if k = 0 then two else two) ∧ Hid (l'.length = m') ∧ m' ≤ 4096 ∧ Hid (l' = (l ++ [kt ++ colon]) ++ (hang two ls).take k) ∧ wq.ownsRow w1.heap.size 9 1 v m' (scells l') ∧ Beside wq v A7 ls.length (scells ls) ∧ Below w1.heap.size w1 wq) (fun _ _ q _ => ls.length - (intOf q).toNat)
        case atStart => exact ⟨0, _, (l ++ [kt ++ colon]), Nat.zero_le _, rfl, rfl, Hlb.out, hm1, by simp [Hid], Hown4.out, Hbs4.out, Hb4.out⟩
        case round =>
          clear Hown4 Hbs4 Hb4
          obtain ⟨k', m', l', hk', rfl, rfl, hlm', hm4', hl', hown', hbs', hbel'⟩ := hrel
          have hszq := hbel'.size
          obtain ⟨hd, hhd⟩ : ∃ hd, (if k' = 0 then two else two) = hd := ⟨_, rfl⟩
          rw [hhd]
          by_cases hlt' : k' < ls.length
          · have hst := hang_step (h := two) (l := (l ++ [kt ++ colon])) hlt'
            have Hst := Lib.hid (show (l ++ [kt ++ colon]) ++ (hang two ls).take (k' + 1) = l' ++ [(if k' = 0 then two else two) ++ ls[k']] by rw [hst, hl'.out])
            have hroom : l'.length + 1 ≤ 4096 := by
              have h1 := congrArg List.length Hst.out
              have h2 := hang_take_le two ls (k' + 1)
              have h5 := Hcnt.out
              simp only [List.length_append, List.length_singleton] at h1
              try simp only [List.length_append, List.length_singleton] at h5
              omega
            have hm5 : m' + 1 ≤ 4096 := by rw [← hlm'.out]; exact hroom
            have Hlm' := Lib.hid hlm'.out
            obtain ⟨g7, o7, rfl, hg7, hc70⟩ := hbs'.1.2 (by omega)
            have hcell := hc70 k' hlt' _ (scells_get ls k' hlt')
            have hyz := Hlw.out ls[k'] (List.getElem_mem hlt')
            have Hbs' := Lib.hid hbs'
            clear hst hlm' hl' hroom hc70 hm4'
            generalize ls[k'] = y at hcell hyz Hst
            have hhz : hd.size ≤ 2 := by rw [← hhd]; split <;> decide
            rw [hhd] at Hst
            clear hhd
            have hadd : ¬ 9223372036854775807 < hd.size + y.size := by omega
            go_wp2_with (first | (at_builtin; refine wpList_append_own_at _ rfl (.tmp 78) (.tmp 85) 22 rfl w1.heap.size 9 i0 (.string ⟨#[]⟩) 1 16 Tryz.underlying22 hi hz0 hz1 hz2 rfl (by decide) _ m' _ rfl (hown'.alloc _) ⟨wr.heap.size, 0, none⟩ 1 1 [.string (hd ++ y)] rfl rfl (by exact lit_cells _ _ _) (by intro u hu; simp at hu; subst hu; rfl) (by unfold maxLen; omega) (by omega) (by simp; omega) ?_) | fail)
            intro v4 w4 hown4 hg4 _ hat4
            have Hb4 := Lib.hid ((hbel'.alloc hszq _).grown hg4 (by simp; omega) (fun b hb => (hown'.lt b hb).1))
            have Hown4 := Lib.hid (own_snoc hown4)
            have Hbs4 := Lib.hid (Beside.grown (v' := v4) (Hbs'.out.below (alloc_below wr (.cells #[.string (hd ++ y)] 9))) hg4 (by rw [World.size_alloc]; exact hat4))
            clear hown4 hg4 hat4 hown' hbel' Hbs' hcell
            go_wp2_with fail
            go_roundw
            case rel => exact ⟨k' + 1, m' + 1, l' ++ [hd ++ y], by omega, by go_num, by simp [two], by unfold Hid; rw [List.length_append, Hlm'.out]; rfl, hm5, by unfold Hid; rw [Hst.out], Hown4.out, Hbs4.out, Hb4.out⟩
            case measure => simp [intOf]; omega
          · clear hhd
            obtain rfl : k' = ls.length := by omega
            rw [hang_done] at hl'
            have Hlm' := Lib.hid hlm'.out
            have Hl' := Lib.hid hl'.out
            have Hown' := Lib.hid hown'
            have Hbel' := Lib.hid hbel'
            clear hlm' hl' hown' hbel' hbs'
            go_wp2_with fail
            go_roundw
            case rel => exact ⟨j + 1, m', l', by omega, by go_num, Hlm'.out, hm4', by unfold Hid; rw [Hl'.out, HX.out, ← Hl.out, hang_two]; simp, Hown'.out, Hbel'.out⟩
            case measure => simp [intOf]; omega
    · obtain rfl : j = kids.length := by omega
      have Hl9 := Lib.hid (show l = mapL ks kids by rw [hl.out, ← Hkl.out, List.take_length, Hkl.out, List.take_length])
      have Hlm := Lib.hid hlm.out
      have Hown := Lib.hid hown
      have Hbel := Lib.hid hbel
      clear hl hlm hown hbel
      go_wp2_with fail
      go_ret
      exact ⟨_, rfl, by rw [← Hl9.out, Hlm.out]; exact own_lower Hown.out Hb1.out.size, below_link Hb1.out Hbel.out Hb1.out.size⟩
end Go.Proofs.YtbfkkaafkinpmaaGreatDoor.ind
namespace Go.Proofs.YtbfkkaafkinpmaaGreatDoor.ind
open Go.ChangeShapes Go.WideShapes Go.ChangeAt Go.RowKit tree line
set_option linter.unusedVariables false

theorem spec_lines : ∀ f : Nat, LinS f
  | 0 => by
    intro t vs w h
    obtain ⟨k, fl, n, s, ks, kids⟩ := t
    obtain ⟨_, _, _, _, _, _, _, _, _, _, _, _, _, _, f', hf, _⟩ := open_tree h
    omega
  | f + 1 => by
    intro t vs w h hsh hsz hdp
    have IH := spec_lines f
    have hnums := say.lies_nums _ _ _ w h
    have hcnt := (lines_both t).1
    obtain ⟨k, fl, n, s, ks, kids⟩ := t
    have hl := h
    obtain ⟨A1, c1, A2, c2, rfl, wk, wn, hs, hc1, hc2, hr, hks, hc3, hc4, f', hf, hk⟩ := open_tree h
    obtain rfl : f = f' := by omega
    by_cases h0 : kids.length = 0
    · exact lines_leafS f k fl n s ks kids A1 A2 c1 c2 w hl h0 hsz
    rw [Shape, shapes_iff] at hsh
    obtain ⟨⟨hk1, hk6, _, _, _, _, _, hk8⟩, ht, hko, hkd⟩ := hsh
    rw [say.Nums, say.numss_iff] at hnums
    have hsz2 : sizes kids ≤ 4096 := by rw [size] at hsz; omega
    have hdp2 : depths kids ≤ 4096 := by rw [depth] at hdp; omega
    by_cases h6 : k = 6
    · subst h6
      rw [lines_map h0] at hcnt ⊢
      exact lines_mapS f IH fl n s ks kids A1 A2 c1 c2 w hk hr hc1 hc2 hc3 hc4 (hk8 rfl) hko hkd hnums.2 h0 hsz2 hdp2 (Nat.le_trans hcnt hsz)
    · rw [lines_list h0 h6] at hcnt ⊢
      exact lines_listS f IH k h6 fl n s ks kids A1 A2 c1 c2 w hk hr hc1 hc2 hc3 hc4 hkd hnums.2 h0 hsz2 hdp2 (Nat.le_trans hcnt hsz)
set_option maxRecDepth 100000 in
set_option maxHeartbeats 4000000 in
theorem spec_rows (f : Nat) (t : T) (vs : List Value) (w : World) (h : LiesS w f vs (row t)) (hsz : size t ≤ 1099511627776) :
    Calls Tryz.prog 6 #[.agg vs.toArray] w (OutL w (rowsT t)) := by
  obtain ⟨u0, u1, u2, u3, u4, u5, rfl⟩ := six_of (h.1.trans (row_length _))
  obtain ⟨w1, hw1⟩ : ∃ w1, w1 = w.alloc (.cells #[u0, u1, u2, u3, u4, u5] 30) := ⟨_, rfl⟩
  have hb1 : Below w.heap.size w w1 := by rw [hw1]; exact alloc_below _ _
  have hrow1 : w1.heap[w.heap.size]? = some (.cells #[u0, u1, u2, u3, u4, u5] 30 (0, 0)) := by rw [hw1]; exact heap_alloc_new w _
  have HO := Lib.hid (spec_okay f t _ w1 (h.below hb1) hsz)
  have Hb1 := Lib.hid hb1
  have Hrow1 := Lib.hid hrow1
  have Hl1 := Lib.hid (h.below hb1)
  have Hw1 := Lib.hid hw1
  obtain ⟨p0, p1, p2, p3, p4, p5⟩ := Row6.of hrow1
  rw [hw1] at p0 p1 p2 p3 p4 p5
  clear h hb1 hrow1 hw1
  by_cases hok : Ok t
  · rw [show dec (Ok t) = true by unfold dec; simp [hok]] at HO
    rw [rows_yes hok]
    have HLt := Lib.hid (fun w2 (hb2 : Below w1.heap.size w1 w2) => spec_lines f t _ w2 (Hl1.out.below hb2) hok.2.2 (by have := hok.2.1; omega) (by have := hok.1; omega))
    generalize linesF t = l at HLt ⊢
    clear hok
    go_enter Tryz.func6, Tryz.ntmps6
    go_wp2_with fail
    rw [← Hw1.out]
    refine HO.out.mono ?_
    rintro e w2 ⟨rfl, hb2⟩
    have HL := Lib.hid (HLt.out w2 hb2)
    have hb12 := below_link Hb1.out hb2 Hb1.out.size
    have Hb2 := Lib.hid hb12
    have hrow2 := heap_kept hb2 (heap_lt Hrow1.out) Hrow1.out
    clear p0 p1 p2 p3 p4 p5 HO Hw1 Hl1 Hb1 hb2 hb12
    obtain ⟨p0, p1, p2, p3, p4, p5⟩ := Row6.of hrow2
    clear hrow2 HLt
    go_wp2_with fail
    refine HL.out.mono ?_
    rintro e w3 ⟨v3, rfl, hown3, hb3⟩
    have Hown3 := Lib.hid (own_lower hown3 Hb2.out.size)
    have Hb3 := Lib.hid (below_link Hb2.out hb3 Hb2.out.size)
    clear HL hown3 hb3 p0 p1 p2 p3 p4 p5
    go_wp2_with fail
    go_ret
    exact ⟨_, rfl, Hown3.out, Hb3.out⟩
  · rw [show dec (Ok t) = false by unfold dec; simp [hok]] at HO
    rw [rows_no hok]
    clear hok
    go_enter Tryz.func6, Tryz.ntmps6
    go_wp2_with fail
    rw [← Hw1.out]
    refine HO.out.mono ?_
    rintro e w2 ⟨rfl, hb2⟩
    have Hb2 := Lib.hid (below_link Hb1.out hb2 Hb1.out.size)
    have Hsz := Lib.hid (show w.heap.size ≤ w2.heap.size from Hb2.out.size)
    clear p0 p1 p2 p3 p4 p5 HO Hw1 Hl1 Hb1 hb2
    go_wp2_with fail
    go_ret
    exact ⟨_, rfl, World.ownsRow_lit w2 #[] 0 Hsz.out (by simp [maxLen]) rfl, Hb2.out.alloc Hsz.out _⟩
end Go.Proofs.YtbfkkaafkinpmaaGreatDoor.ind
