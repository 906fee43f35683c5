/- Merged: LeadI PairI IndOI IndRI. -/
import Derived.Test.YtbfkkaafkinpmaaGreatDoorGInd
import Derived.Deep.Cut
import Derived.Test.YtbfkkaafkinpmaaGreatDoorSctI
import Derived.Test.YtbfkkaafkinpmaaGreatDoorGTree
namespace Go.Proofs.YtbfkkaafkinpmaaGreatDoor.ind
open Go.ChangeShapes Go.WideShapes Go.ChangeAt Go.RowKit tree
set_option linter.unusedVariables false

set_option maxRecDepth 100000 in
set_option maxHeartbeats 8000000 in
theorem impl_leads (A : Option Addr) (c : Nat) (ls : List ByteArray) (h : ByteArray) (w : World) (hr : Rd w A ls.length (scells ls)) (hc1 : ls.length ≤ c) (hc2 : c ≤ maxLen) (hn : ls.length ≤ 4096) (hz : ∀ x ∈ ls, x.size ≤ 16384) (hh : h.size ≤ 2) :
    Calls Tryz.prog 39 #[.slice A ls.length c, .string h] w (OutL w (hang h ls)) := by
  obtain ⟨i0, hi, hz0, hz1, hz2⟩ := info_parts TryzinfoStr'
  obtain ⟨w1, hw1⟩ : ∃ w1, w1 = w.alloc (.cells #[] 9) := ⟨_, rfl⟩
  have hb1 : Below w.heap.size w w1 := by rw [hw1]; exact alloc_below _ _
  have hown1 : w1.ownsRow w.heap.size 9 1 (.slice (some ⟨w.heap.size, 0, none⟩) 0 0) 0 (scells []) := by rw [hw1]; exact World.ownsRow_lit w #[] 0 (Nat.le_refl _) (by simp [maxLen]) rfl
  have Hw1 := Lib.hid hw1
  have Hb1 := Lib.hid hb1
  have Hown1 := Lib.hid hown1
  have Hr := Lib.hid hr
  have Hz := Lib.hid hz
  unfold maxLen at hc2
  clear hb1 hown1 hw1 hr hz
  go_enter Tryz.func39, Tryz.ntmps39
  go_upto_region 2 with fail
  rw [← Hw1.out]
  clear Hw1
  go_wp2_with fail
  go_loopw [5, 6, 13] (fun v d i wr => ∃ k : Nat, k ≤ ls.length ∧ i = .int .i64 k ∧ d = .string (if k = 0 then h else two) ∧ wr.ownsRow w.heap.size 9 1 v k (scells ((hang h ls).take k)) ∧ Below w.heap.size w wr) (fun _ _ i _ => ls.length - (intOf i).toNat)
  case atStart => exact ⟨0, Nat.zero_le _, rfl, rfl, Hown1.out, Hb1.out⟩
  case round =>
    clear Hown1 Hb1
    obtain ⟨k, hk, rfl, rfl, hown, hbel⟩ := hrel
    have hszr := hbel.size
    obtain ⟨d, hd⟩ : ∃ d, (if k = 0 then h else two) = d := ⟨_, rfl⟩
    rw [hd]
    by_cases hlt : k < ls.length
    · have Hst := Lib.hid (hang_take (h := h) hlt)
      obtain ⟨g, o, rfl, hg, hc0⟩ := Hr.out.2 (by omega)
      have hcell : wr.cell? ⟨g, o + k, none⟩ = some (.string ls[k]) := (hbel.cell (p := ⟨g, o + k, none⟩) hg).trans (hc0 k hlt _ (scells_get ls k hlt))
      have hyz := Hz.out ls[k] (List.getElem_mem hlt)
      clear hc0
      generalize ls[k] = y at hcell hyz Hst
      have hdz : d.size ≤ 2 := by rw [← hd]; split; exact hh; decide
      rw [hd] at Hst
      clear hd
      generalize (hang h ls).take k = l at hown Hst
      have hadd : ¬ 9223372036854775807 < d.size + y.size := by omega
      go_wp2_with (first | (at_builtin; refine wpList_append_own_at _ rfl (.tmp 17) (.tmp 21) 22 rfl w.heap.size 9 i0 (.string ⟨#[]⟩) 1 16 Tryz.underlying22 hi hz0 hz1 hz2 rfl (by decide) _ k _ rfl (hown.alloc _) ⟨wr.heap.size, 0, none⟩ 1 1 [.string (d ++ y)] rfl rfl (by exact lit_cells _ _ _) (by intro u hu; simp at hu; subst hu; rfl) (by unfold maxLen; omega) (by omega) (by simp; omega) ?_) | fail)
      intro v4 w4 hown4 hg4 _ _
      have Hb4 := Lib.hid ((hbel.alloc hszr _).grown hg4 (by simp; omega) (fun b hb => (hown.lt b hb).1))
      have Hown4 := Lib.hid (own_snoc hown4)
      clear hown4 hg4 hown hbel hcell
      go_wp2_with fail
      go_roundw
      case rel => exact ⟨k + 1, by omega, by go_num, by simp [two], by rw [Hst.out]; exact Hown4.out, Hb4.out⟩
      case measure => simp [intOf]; omega
    · clear hd
      obtain rfl : k = ls.length := by omega
      rw [hang_done] at hown
      have Hown := Lib.hid hown
      have Hbel := Lib.hid hbel
      clear hown hbel
      go_wp2_with fail
      go_ret
      exact ⟨_, rfl, by rw [hang_length]; exact Hown.out, Hbel.out⟩
end Go.Proofs.YtbfkkaafkinpmaaGreatDoor.ind
namespace Go.Proofs.YtbfkkaafkinpmaaGreatDoor.ind
open Go.ChangeShapes Go.WideShapes Go.ChangeAt Go.RowKit tree line
open rune (Tabs)
open decimal (Pow)
set_option linter.unusedVariables false

def LinI (f : Nat) : Prop := ∀ (t : T) (vs : List Value) (w : World), LiesS w f vs (row t) → Ok t → Pow w → Tabs w → MaxL w → Calls Tryz.prog 23 #[.agg vs.toArray] w (OutL w (linesF t))
theorem ok_kid {k : Int} {f : Bool} {n : Int} {s : ByteArray} {ks : List ByteArray} {kids : List T} {x : T} (h : Ok (.mk k f n s ks kids)) (hx : x ∈ kids) : Ok x := by
  obtain ⟨h1, h2, h3⟩ := h
  rw [Shape, shapes_iff] at h3
  rw [size] at h2
  have h4 := sizes_le_mem hx
  have h5 := depth_kid (k := k) (f := f) (n := n) (s := s) (ks := ks) hx
  exact ⟨by omega, by omega, h3.2.2.2 x hx⟩
theorem lines_wide {t : T} (h : Ok t) (hn : say.Nums t) : (linesF t).length ≤ 300 ∧ ∀ x ∈ linesF t, x.size ≤ 6420 := by
  refine ⟨Nat.le_trans (lines_both t).1 h.2.1, fun x hx => ?_⟩
  have := (line_le t h.2.2 hn).1 x hx
  have := h.1
  omega
theorem own_one (w : World) (B : Nat) (y : ByteArray) (h : B ≤ w.heap.size) : (w.alloc (.cells #[.string y] 9)).ownsRow B 9 1 (.slice (some ⟨w.heap.size, 0, none⟩) 1 1) 1 (scells [y]) :=
  World.ownsRow_lit w #[.string y] 1 h (by simp [maxLen]) rfl
set_option maxRecDepth 1000000 in
set_option maxHeartbeats 8000000 in
theorem impl_pair (f : Nat) (IH0 : LinI f) (key : ByteArray) (x : T) (vs : List Value) (w : World) (h : LiesS w f vs (row x)) (hok : Ok x) (hkey : TextOk key) (hP : Pow w) (hT : Tabs w) (hM : MaxL w) :
    Calls Tryz.prog 38 #[.string key, .agg vs.toArray] w (OutL w (pairL key x (linesF x))) := by
  obtain ⟨i0, hi, hz0, hz1, hz2⟩ := info_parts TryzinfoStr'
  have hnums := say.lies_nums _ _ _ w h
  obtain ⟨u0, u1, u2, u3, u4, u5, rfl⟩ := six_of (h.1.trans (row_length _))
  obtain ⟨w1, hw1⟩ : ∃ w1, w1 = w.alloc (.cells #[u0, u1, u2, u3, u4, u5] 30) := ⟨_, rfl⟩
  have hb1 : Below w.heap.size w w1 := by rw [hw1]; exact alloc_below _ _
  have hrow1 : w1.heap[w.heap.size]? = some (.cells #[u0, u1, u2, u3, u4, u5] 30 (0, 0)) := by rw [hw1]; exact heap_alloc_new w _
  have HK := Lib.hid (impl_kt key w1 (Nat.le_trans hkey.1 (by omega)) (hT.below hb1) (hM.below hb1))
  have HS := Lib.hid (fun w' (hb : Below w.heap.size w w') => impl_sct f x _ w' (h.below hb) (Nat.le_trans hok.2.1 (by omega)) (hT.below hb) (hM.below hb) (hP.below hb))
  have HL := Lib.hid (fun w' (hb : Below w.heap.size w w') => IH0 x _ w' (h.below hb) hok (hP.below hb) (hT.below hb) (hM.below hb))
  have Hwide := Lib.hid (lines_wide hok hnums)
  have Hkz := Lib.hid (key_le hkey)
  have Hb1 := Lib.hid hb1
  have Hrow1 := Lib.hid hrow1
  have Hw1 := Lib.hid hw1
  have Hok := Lib.hid hok
  have hkz := key_le hkey
  generalize hkt0 : keyT key = kt at HK Hkz hkz
  have Hkt := Lib.hid hkt0
  clear h hb1 hrow1 hw1 hok hkey hP hT hM IH0 hnums hkt0
  by_cases hkid : x.kids = []
  · have hf := tell_yes Hok.out hkid
    have hl1 : linesF x = [tellS x] := by
      obtain ⟨k, fl, n, s, ks, kids⟩ := x
      exact lines_leaf (by rw [show kids = [] from hkid]; rfl)
    have hty : (tellS x).size ≤ 6420 := (Hwide.out.2 _ (by rw [hl1]; exact List.mem_singleton_self _))
    have hres : pairL key x (linesF x) = [kt ++ colonSp ++ tellS x] := by unfold pairL; rw [if_pos hkid, Hkt.out, hl1]; rfl
    have hs : (tellF x).isSome = true := by rw [hf]; rfl
    rw [hs] at HS
    rw [hres]
    generalize tellS x = y at HS hty ⊢
    clear hkid hf hl1 hres hs HL Hwide Hok Hkt Hkz
    have hadd : ¬ 9223372036854775807 < kt.size + 2 := by omega
    have hkcz : (kt ++ ⟨#[58, 32]⟩ : ByteArray).size = kt.size + 2 := by rw [ByteArray.size_append]; rfl
    have hadd2 : ¬ 9223372036854775807 < (kt ++ ⟨#[58, 32]⟩ : ByteArray).size + y.size := by rw [hkcz]; omega
    clear hkcz
    go_enter Tryz.func38, Tryz.ntmps38
    go_wp2_with fail
    rw [← Hw1.out]
    refine HK.out.mono ?_
    rintro e w2 ⟨rfl, hb2⟩
    have hb12 := below_link Hb1.out hb2 Hb1.out.size
    obtain ⟨p0, p1, p2, p3, p4, p5⟩ := Row6.of (heap_kept hb2 (heap_lt Hrow1.out) Hrow1.out)
    have HS2 := Lib.hid (HS.out w2 hb12)
    have Hb2 := Lib.hid hb12
    clear HK HS hb2 hb12 Hrow1 Hw1 Hb1
    go_wp2_with fail
    refine HS2.out.mono ?_
    rintro e w3 ⟨rfl, hb3⟩
    have Hb3 := Lib.hid (below_link Hb2.out hb3 Hb2.out.size)
    have Hsz3 := Lib.hid (show w.heap.size ≤ w3.heap.size from Hb3.out.size)
    clear HS2 hb3 p0 p1 p2 p3 p4 p5
    go_wp2_with fail
    go_ret
    exact ⟨_, rfl, own_one w3 _ _ Hsz3.out, Hb3.out.alloc Hsz3.out _⟩
  · have hf : tellF x = none := tell_no (fun e => hkid e.2)
    have hs : (tellF x).isSome = false := by rw [hf]; rfl
    have hres : pairL key x (linesF x) = [kt ++ colon] ++ hang two (linesF x) := by unfold pairL; rw [if_neg hkid, Hkt.out, hang_two]; rfl
    rw [hs] at HS
    rw [hres]
    generalize linesF x = ls at HL Hwide ⊢
    generalize tellS x = y at HS
    have hn300 := Hwide.out.1
    clear hkid hf hres hs Hok Hkt Hkz
    have hadd : ¬ 9223372036854775807 < kt.size + 1 := by omega
    go_enter Tryz.func38, Tryz.ntmps38
    go_wp2_with fail
    rw [← Hw1.out]
    refine HK.out.mono ?_
    rintro e w2 ⟨rfl, hb2⟩
    have hb12 := below_link Hb1.out hb2 Hb1.out.size
    have Hrow2 := Lib.hid (heap_kept hb2 (heap_lt Hrow1.out) Hrow1.out)
    obtain ⟨p0, p1, p2, p3, p4, p5⟩ := Row6.of Hrow2.out
    have HS2 := Lib.hid (HS.out w2 hb12)
    have Hb2 := Lib.hid hb12
    clear HK HS hb2 hb12 Hrow1 Hw1 Hb1
    go_wp2_with fail
    refine HS2.out.mono ?_
    rintro e w3 ⟨rfl, hb3⟩
    have hb13 := below_link Hb2.out hb3 Hb2.out.size
    have hrow3 := heap_kept hb3 (heap_lt Hrow2.out) Hrow2.out
    obtain ⟨w4, hw4⟩ : ∃ w4, w4 = w3.alloc (.cells #[.string (kt ++ ⟨#[58]⟩)] 9) := ⟨_, rfl⟩
    have hown4 : w4.ownsRow w.heap.size 9 1 (.slice (some ⟨w3.heap.size, 0, none⟩) 1 1) 1 (scells [kt ++ colon]) := by rw [hw4]; exact own_one w3 _ _ hb13.size
    have hb4 : Below w.heap.size w w4 := by rw [hw4]; exact hb13.alloc hb13.size _
    have hrow4 : w4.heap[w.heap.size]? = some (.cells #[u0, u1, u2, u3, u4, u5] 30 (0, 0)) := by rw [hw4]; exact heap_kept (alloc_below w3 _) (heap_lt hrow3) hrow3
    obtain ⟨p0', p1', p2', p3', p4', p5'⟩ := Row6.of hrow4
    rw [hw4] at p0' p1' p2' p3' p4' p5'
    have HL4 := Lib.hid (HL.out w4 hb4)
    have Hb4 := Lib.hid hb4
    have Hown4 := Lib.hid hown4
    have Hw4 := Lib.hid hw4
    clear HS2 HL hb3 hb13 hrow3 hown4 hb4 hrow4 hw4 p0 p1 p2 p3 p4 p5 Hrow2
    go_wp2_with fail
    rw [← Hw4.out]
    refine HL4.out.mono ?_
    rintro e w5 ⟨v5, rfl, hown5, hb5⟩
    obtain ⟨A5, c5, rfl, hc5, hm5, hr5⟩ := Rd.of_own hown5
    have Hown5 := Lib.hid (own_below' Hown4.out hb5)
    have Hb5 := Lib.hid (below_link Hb4.out hb5 Hb4.out.size)
    have HD := Lib.hid (impl_leads A5 c5 ls two w5 hr5 hc5 hm5 (by omega) (fun y hy => by have := Hwide.out.2 y hy; omega) (by decide))
    clear HL4 hown5 hb5 hc5 hm5 hr5 p0' p1' p2' p3' p4' p5' Hw4 Hown4 Hb4
    unfold two at HD
    go_wp2_with fail
    refine HD.out.mono ?_
    rintro e w6 ⟨v6, rfl, hown6, hb6⟩
    obtain ⟨A6, c6, rfl, hc6, hm6, hr6⟩ := Rd.of_own hown6
    have hl6 : (hang (⟨#[32, 32]⟩ : ByteArray) ls).length ≤ 300 := by rw [hang_length]; exact hn300
    have hown66 := own_below' Hown5.out hb6
    have hb66 := below_link Hb5.out hb6 Hb5.out.size
    have hs66 := hb66.size
    clear HD hown6 hb6 Hown5 Hb5
    generalize hL6 : (hang (⟨#[32, 32]⟩ : ByteArray) ls) = L6 at hr6 hc6 hl6
    have HL6 := Lib.hid (show (kt ++ colon) :: hang two ls = [kt ++ colon] ++ L6 by rw [← hL6]; rfl)
    clear hL6
    go_wp2_with (first | (at_builtin; refine wpList_append_rd rfl (.tmp 22) (.tmp 25) 22 rfl w.heap.size 9 i0 (.string ⟨#[]⟩) 16 Tryz.underlying22 hi hz0 hz1 hz2 rfl _ 1 (scells [kt ++ colon]) rfl hown66 A6 L6.length c6 (scells L6) rfl hr6 (strs_one _) (by unfold maxLen; omega) (by omega) hs66 ?_) | fail)
    intro v7 w7 hown7 hg7 _
    have Hown7 := Lib.hid (show w7.ownsRow w.heap.size 9 1 v7 (1 + L6.length) (scells ([kt ++ colon] ++ L6)) by rw [scells_append]; exact hown7)
    have Hb7 := Lib.hid (hb66.grown hg7 hs66 (fun b hb => (hown66.lt b hb).1))
    clear hown7 hg7 hown66 hb66 hr6
    go_wp2_with fail
    go_ret
    exact ⟨_, rfl, by rw [HL6.out, List.length_append]; exact Hown7.out, Hb7.out⟩
end Go.Proofs.YtbfkkaafkinpmaaGreatDoor.ind
namespace Go.Proofs.YtbfkkaafkinpmaaGreatDoor.ind
open Go.ChangeShapes Go.WideShapes Go.ChangeAt Go.RowKit tree line
open rune (Tabs)
open decimal (Pow)
set_option linter.unusedVariables false
set_option maxRecDepth 1000000 in
set_option maxHeartbeats 8000000 in
theorem of_leafI (f : Nat) (k : Int) (fl : Bool) (n : Int) (s : ByteArray) (ks : List ByteArray) (kids : List T) (A1 A2 : Option Addr) (c1 c2 : Nat) (w : World) (hl : LiesS w (f + 1) [.int .i64 k, .bool fl, .int .i64 n, .string s, .slice A1 ks.length c1, .slice A2 kids.length c2] (row (.mk k fl n s ks kids))) (h0 : kids.length = 0) (hok : Ok (.mk k fl n s ks kids)) (hP : Pow w) (hT : Tabs w) (hM : MaxL w) :
    Calls Tryz.prog 23 #[.agg #[.int .i64 k, .bool fl, .int .i64 n, .string s, .slice A1 ks.length c1, .slice A2 kids.length c2]] w (OutL w (linesF (.mk k fl n s ks kids))) := by
  obtain ⟨w1, hw1⟩ : ∃ w1, w1 = w.alloc (.cells #[.int .i64 k, .bool fl, .int .i64 n, .string s, .slice A1 ks.length c1, .slice A2 kids.length c2] 30) := ⟨_, rfl⟩
  have hb1 : Below w.heap.size w w1 := by rw [hw1]; exact alloc_below _ _
  have hrow1 : w1.heap[w.heap.size]? = some (.cells #[.int .i64 k, .bool fl, .int .i64 n, .string s, .slice A1 ks.length c1, .slice A2 kids.length c2] 30 (0, 0)) := by rw [hw1]; exact heap_alloc_new w _
  have HS := Lib.hid (impl_sct (f + 1) _ _ w1 (hl.below hb1) (Nat.le_trans hok.2.1 (by omega)) (hT.below hb1) (hM.below hb1) (hP.below hb1))
  have Hb1 := Lib.hid hb1
  have Hw1 := Lib.hid hw1
  have hs : (tellF (.mk k fl n s ks kids)).isSome = true := by rw [tell_yes hok (show kids = [] from List.eq_nil_of_length_eq_zero h0)]; rfl
  rw [hs] at HS
  rw [lines_leaf h0]
  generalize tellS (.mk k fl n s ks kids) = y at HS ⊢
  obtain ⟨p0, p1, p2, p3, p4, p5⟩ := Row6.of hrow1
  rw [hw1] at p0 p1 p2 p3 p4 p5
  clear hl hb1 hrow1 hw1 hok hP hT hM hs h0
  go_enter Tryz.func23, Tryz.ntmps23
  go_wp2_with fail
  rw [← Hw1.out]
  refine HS.out.mono ?_
  rintro e w3 ⟨rfl, hb3⟩
  have Hb3 := Lib.hid (below_link Hb1.out hb3 Hb1.out.size)
  have Hsz3 := Lib.hid (show w.heap.size ≤ w3.heap.size from Hb3.out.size)
  clear HS hb3 p0 p1 p2 p3 p4 p5 Hw1
  go_wp2_with fail
  go_ret
  exact ⟨_, rfl, own_one w3 _ _ Hsz3.out, Hb3.out.alloc Hsz3.out _⟩
set_option maxRecDepth 1000000 in
set_option maxHeartbeats 16000000 in
theorem of_listI (f : Nat) (IH0 : LinI f) (k : Int) (hk6 : k ≠ 6) (fl : Bool) (n : Int) (s : ByteArray) (ks : List ByteArray) (kids : List T) (A1 A2 : Option Addr) (c1 c2 : Nat) (w : World) (hl : LiesS w (f + 1) [.int .i64 k, .bool fl, .int .i64 n, .string s, .slice A1 ks.length c1, .slice A2 kids.length c2] (row (.mk k fl n s ks kids))) (hk : KidsAt w f A2 kids) (hr : Rd w A1 ks.length (scells ks)) (hc1 : ks.length ≤ c1) (hc2 : c1 ≤ maxLen) (hc3 : kids.length ≤ c2) (hc4 : c2 ≤ maxLen) (h0 : ¬ kids.length = 0) (hok : Ok (.mk k fl n s ks kids)) (hP : Pow w) (hT : Tabs w) (hM : MaxL w) :
    Calls Tryz.prog 23 #[.agg #[.int .i64 k, .bool fl, .int .i64 n, .string s, .slice A1 ks.length c1, .slice A2 kids.length c2]] w (OutL w (listL kids)) := by
  obtain ⟨i0, hi, hz0, hz1, hz2⟩ := info_parts TryzinfoStr'
  obtain ⟨w1, hw1⟩ : ∃ w1, w1 = w.alloc (.cells #[.int .i64 k, .bool fl, .int .i64 n, .string s, .slice A1 ks.length c1, .slice A2 kids.length c2] 30) := ⟨_, rfl⟩
  have hb1 : Below w.heap.size w w1 := by rw [hw1]; exact alloc_below _ _
  have hbox1 : w1.heap[w.heap.size]? = some (.cells #[.int .i64 k, .bool fl, .int .i64 n, .string s, .slice A1 ks.length c1, .slice A2 kids.length c2] 30 (0, 0)) := by rw [hw1]; exact heap_alloc_new w _
  have HS := Lib.hid (impl_sct (f + 1) _ _ w1 (hl.below hb1) (Nat.le_trans hok.2.1 (by omega)) (hT.below hb1) (hM.below hb1) (hP.below hb1))
  have hs : (tellF (.mk k fl n s ks kids)).isSome = false := by rw [tell_kids (Nat.pos_of_ne_zero h0)]; rfl
  rw [hs] at HS
  generalize tellS (.mk k fl n s ks kids) = y at HS
  have hnums := say.lies_nums _ _ _ w hl
  rw [say.Nums, say.numss_iff] at hnums
  have IH := Lib.hid IH0
  have Hb1 := Lib.hid hb1
  have Hw1 := Lib.hid hw1
  have Hk := Lib.hid (hk.below hb1)
  have Hr := Lib.hid (hr.below hb1)
  have Hnd := Lib.hid hnums.2
  have Hok := Lib.hid hok
  have HP := Lib.hid (fun w' (hb : Below w.heap.size w w') => hP.below hb)
  have HT := Lib.hid (fun w' (hb : Below w.heap.size w w') => hT.below hb)
  have HM := Lib.hid (fun w' (hb : Below w.heap.size w w') => hM.below hb)
  have hn300 : kids.length ≤ 300 := by
    have := len_le_sizes kids
    have h2 := hok.2.1
    rw [size] at h2
    omega
  have hall : (listL kids).length ≤ 300 := by
    have h2 := (lines_wide hok (by rw [say.Nums, say.numss_iff]; exact hnums)).1
    rw [lines_list h0 hk6] at h2
    exact h2
  have Hall := Lib.hid hall
  obtain ⟨p0, p1, p2, p3, p4, p5⟩ := Row6.of hbox1
  have Hbox1 := Lib.hid hbox1
  rw [hw1] at p0 p1 p2 p3 p4 p5
  unfold maxLen at hc2 hc4
  have e6 : (k == 6) = false := beq_eq_false_iff_ne.2 hk6
  clear hl hk hr hb1 hbox1 hw1 hok hP hT hM hs IH0 hnums hall
  go_enter Tryz.func23, Tryz.ntmps23
  go_wp2_with fail
  rw [← Hw1.out]
  refine HS.out.mono ?_
  rintro e w2 ⟨rfl, hb2⟩
  have hb12 := below_link Hb1.out hb2 Hb1.out.size
  have hbox2 := heap_kept hb2 (heap_lt Hbox1.out) Hbox1.out
  have Hk2 := Lib.hid (Hk.out.below hb2)
  have Hr2 := Lib.hid (Hr.out.below hb2)
  obtain ⟨w3, hw3⟩ : ∃ w3, w3 = w2.alloc (.cells #[] 9) := ⟨_, rfl⟩
  have hb23 : Below w2.heap.size w2 w3 := by rw [hw3]; exact alloc_below _ _
  have hown3 : w3.ownsRow w2.heap.size 9 1 (.slice (some ⟨w2.heap.size, 0, none⟩) 0 0) 0 (scells []) := by rw [hw3]; exact World.ownsRow_lit w2 #[] 0 (Nat.le_refl _) (by simp [maxLen]) rfl
  have Hb2 := Lib.hid hb12
  have Hown3 := Lib.hid hown3
  have Hb23 := Lib.hid hb23
  have Hbox2 := Lib.hid hbox2
  have Hw3 := Lib.hid hw3
  clear HS hb2 hb12 hbox2 hown3 hb23 hw3 p0 p1 p2 p3 p4 p5 Hw1 Hb1 Hbox1 Hk Hr
  go_upto_region 5 with fail
  rw [← Hw3.out]
  clear Hw3
  obtain ⟨p0, p1, p2, p3, p4, p5⟩ := Row6.of (heap_kept Hb23.out (heap_lt Hbox2.out) Hbox2.out)
  go_wp2_with fail
  clear p0 p1 p2 p3 p4 p5
  go_loopw [5, 20] (fun v i wr => ∃ (j m : Nat) (l : List ByteArray), j ≤ kids.length ∧ i = .int .i64 j ∧ Hid (l.length = m) ∧ m ≤ 300 ∧ Hid (l = listL (kids.take j)) ∧ wr.ownsRow w2.heap.size 9 1 v m (scells l) ∧ Below w2.heap.size w2 wr) (fun _ i _ => kids.length - (intOf i).toNat)
  case atStart => exact ⟨0, 0, [], Nat.zero_le _, rfl, rfl, Nat.zero_le _, rfl, Hown3.out, Hb23.out⟩
  case round =>
    clear Hown3 Hb23
    obtain ⟨j, m, l, hj, rfl, hlm, hm4, hl, hown, hbel⟩ := hrel
    have hszr := hbel.size
    by_cases hlt : j < kids.length
    · obtain ⟨g, o, rfl, hg, hkid⟩ := Hk2.out (by omega)
      have hmem : kids[j] ∈ kids := List.getElem_mem hlt
      obtain ⟨u0, u1, u2, u3, u4, u5, hsix, hls⟩ := hkid j kids[j] (List.getElem?_eq_getElem hlt)
      have hone : (#[u0, u1, u2, u3, u4, u5] : Array Value).all (·.oneCell') = true := by have := say.one_of_lies hls; simpa using this
      have hokx := ok_kid Hok.out hmem
      have hwide := lines_wide hokx (Hnd.out _ hmem)
      have hX := listL_take hlt
      have HX := Lib.hid hX
      have hXl : (listL (kids.take (j + 1))).length ≤ 300 := Nat.le_trans (listL_take_le kids (j + 1)) Hall.out
      have Hl := Lib.hid hl.out
      have Hlm := Lib.hid hlm.out
      obtain ⟨q0, q1, q2, q3, q4, q5⟩ := hsix.block (hbel.block g hg)
      have hbw := below_link Hb2.out hbel Hb2.out.size
      have HC := Lib.hid (fun w' (hb : Below w2.heap.size w2 w') (hbb : Below w.heap.size w w') => IH.out kids[j] _ w' (hls.below hb) hokx (HP.out _ hbb) (HT.out _ hbb) (HM.out _ hbb))
      have Hwide := Lib.hid hwide
      generalize linesF kids[j] = ls at HC HX Hwide
      clear hX hwide hokx hkid hmem hls hsix
      obtain ⟨w4, hw4⟩ : ∃ w4, w4 = wr.alloc (.cells #[u0, u1, u2, u3, u4, u5] 30) := ⟨_, rfl⟩
      have hb4 : Below w2.heap.size w2 w4 := by rw [hw4]; exact hbel.alloc hszr _
      have hrow4 : w4.heap[wr.heap.size]? = some (.cells #[u0, u1, u2, u3, u4, u5] 30 (0, 0)) := by rw [hw4]; exact heap_alloc_new wr _
      obtain ⟨r0, r1, r2, r3, r4, r5⟩ := Row6.of hrow4
      have hown4 := hown.alloc (.cells #[u0, u1, u2, u3, u4, u5] 30)
      rw [← hw4] at hown4
      have hboxr := heap_kept hbel (heap_lt Hbox2.out) Hbox2.out
      obtain ⟨p0, p1, p2, p3, p4, p5⟩ := Row6.of hboxr
      have hbox4 := heap_kept (alloc_below wr (.cells #[u0, u1, u2, u3, u4, u5] 30)) (heap_lt hboxr) hboxr
      rw [← hw4] at hbox4
      obtain ⟨s0, s1, s2, s3, s4, s5⟩ := Row6.of hbox4
      have HC4 := Lib.hid (HC.out w4 hb4 (below_link Hb2.out hb4 Hb2.out.size))
      have Hw4 := Lib.hid hw4
      have Hb4 := Lib.hid hb4
      have hlt4 : w2.heap.size ≤ w4.heap.size := hb4.size
      clear hw4 hb4 hrow4 hown hbel hszr hboxr hbox4 HC
      go_upto_region 8 with (first | (refine wpList_store_row rfl 30 _ _ rfl wr.heap.size #[u0, u1, u2, u3, u4, u5] rfl rfl 30 _ (heap_alloc_new wr _) tree_size' rfl hone ?_; rw [World.setRow_alloc_new]) | fail)
      rw [← Hw4.out]
      clear p0 p1 p2 p3 p4 p5 q0 q1 q2 q3 q4 q5
      go_wp2_with fail
      refine HC4.out.mono ?_
      rintro e w5 ⟨v5, rfl, hown5, hb5⟩
      obtain ⟨A5, c5, rfl, hc5, hm5, hr5⟩ := Rd.of_own hown5
      have Hown5 := Lib.hid (own_below' hown4 hb5)
      have Hb5 := Lib.hid (below_link Hb4.out hb5 hlt4)
      have HD := Lib.hid (impl_leads A5 c5 ls dash w5 hr5 hc5 hm5 (by have := Hwide.out.1; omega) (fun y hy => by have := Hwide.out.2 y hy; omega) (by decide))
      clear HC4 hown4 hown5 hb5 hc5 hm5 hr5 r0 r1 r2 r3 r4 r5 s0 s1 s2 s3 s4 s5 Hw4 Hb4 hlt4
      unfold dash at HD
      go_wp2_with fail
      refine HD.out.mono ?_
      rintro e w6 ⟨v6, rfl, hown6, hb6⟩
      obtain ⟨A6, c6, rfl, hc6, hm6, hr6⟩ := Rd.of_own hown6
      have hown66 := own_below' Hown5.out hb6
      have hb66 := below_link Hb5.out hb6 Hb5.out.size
      have hs66 := hb66.size
      generalize hL6 : (hang (⟨#[45, 32]⟩ : ByteArray) ls) = L6 at hr6 hc6
      have Hst := Lib.hid (show listL (kids.take (j + 1)) = l ++ L6 by rw [HX.out, Hl.out, ← hL6]; rfl)
      have hroom : m + L6.length ≤ 300 := by
        have h1 := congrArg List.length Hst.out
        have h2 := Hlm.out
        rw [List.length_append] at h1
        omega
      clear HD hown6 hb6 Hown5 Hb5 hL6 HX Hl hXl
      go_wp2_with (first | (at_builtin; refine wpList_append_rd rfl (.tmp 37) (.tmp 40) 22 rfl w2.heap.size 9 i0 (.string ⟨#[]⟩) 16 Tryz.underlying22 hi hz0 hz1 hz2 rfl _ m (scells l) rfl hown66 A6 L6.length c6 (scells L6) rfl hr6 (strs_one _) (by unfold maxLen; omega) (by omega) hs66 ?_) | fail)
      intro v7 w7 hown7 hg7 _
      have Hown7 := Lib.hid (show w7.ownsRow w2.heap.size 9 1 v7 (m + L6.length) (scells (l ++ L6)) by rw [scells_append]; exact hown7)
      have Hb7 := Lib.hid (hb66.grown hg7 hs66 (fun b hb => (hown66.lt b hb).1))
      clear hown7 hg7 hown66 hb66 hr6
      go_wp2_with fail
      go_roundw
      case rel => exact ⟨j + 1, m + L6.length, l ++ L6, by omega, by go_num, by unfold Hid; rw [List.length_append, Hlm.out], hroom, Hst.out.symm, Hown7.out, Hb7.out⟩
      case measure => simp [intOf]; omega
    · obtain rfl : j = kids.length := by omega
      have Hl9 := Lib.hid (show l = listL kids by rw [hl.out, List.take_length])
      have Hlm := Lib.hid hlm.out
      have Hown := Lib.hid hown
      have Hbel := Lib.hid hbel
      clear hl hlm hown hbel
      go_wp2_with fail
      go_ret
      exact ⟨_, rfl, by rw [← Hl9.out, Hlm.out]; exact own_lower Hown.out Hb2.out.size, below_link Hb2.out Hbel.out Hb2.out.size⟩
set_option maxRecDepth 1000000 in
set_option maxHeartbeats 16000000 in
theorem of_mapI (f : Nat) (IH0 : LinI f) (fl : Bool) (n : Int) (s : ByteArray) (ks : List ByteArray) (kids : List T) (A1 A2 : Option Addr) (c1 c2 : Nat) (w : World) (hl : LiesS w (f + 1) [.int .i64 6, .bool fl, .int .i64 n, .string s, .slice A1 ks.length c1, .slice A2 kids.length c2] (row (.mk 6 fl n s ks kids))) (hk : KidsAt w f A2 kids) (hr : Rd w A1 ks.length (scells ks)) (hc1 : ks.length ≤ c1) (hc2 : c1 ≤ maxLen) (hc3 : kids.length ≤ c2) (hc4 : c2 ≤ maxLen) (h0 : ¬ kids.length = 0) (hok : Ok (.mk 6 fl n s ks kids)) (hP : Pow w) (hT : Tabs w) (hM : MaxL w) :
    Calls Tryz.prog 23 #[.agg #[.int .i64 6, .bool fl, .int .i64 n, .string s, .slice A1 ks.length c1, .slice A2 kids.length c2]] w (OutL w (mapL ks kids)) := by
  obtain ⟨i0, hi, hz0, hz1, hz2⟩ := info_parts TryzinfoStr'
  obtain ⟨w1, hw1⟩ : ∃ w1, w1 = w.alloc (.cells #[.int .i64 6, .bool fl, .int .i64 n, .string s, .slice A1 ks.length c1, .slice A2 kids.length c2] 30) := ⟨_, rfl⟩
  have hb1 : Below w.heap.size w w1 := by rw [hw1]; exact alloc_below _ _
  have hbox1 : w1.heap[w.heap.size]? = some (.cells #[.int .i64 6, .bool fl, .int .i64 n, .string s, .slice A1 ks.length c1, .slice A2 kids.length c2] 30 (0, 0)) := by rw [hw1]; exact heap_alloc_new w _
  have HS := Lib.hid (impl_sct (f + 1) _ _ w1 (hl.below hb1) (Nat.le_trans hok.2.1 (by omega)) (hT.below hb1) (hM.below hb1) (hP.below hb1))
  have hs : (tellF (.mk 6 fl n s ks kids)).isSome = false := by rw [tell_kids (Nat.pos_of_ne_zero h0)]; rfl
  rw [hs] at HS
  generalize tellS (.mk 6 fl n s ks kids) = y at HS
  have hnums := say.lies_nums _ _ _ w hl
  rw [say.Nums, say.numss_iff] at hnums
  have IH := Lib.hid IH0
  have Hb1 := Lib.hid hb1
  have Hw1 := Lib.hid hw1
  have Hk := Lib.hid (hk.below hb1)
  have Hr := Lib.hid (hr.below hb1)
  have Hnd := Lib.hid hnums.2
  have Hok := Lib.hid hok
  have HP := Lib.hid (fun w' (hb : Below w.heap.size w w') => hP.below hb)
  have HT := Lib.hid (fun w' (hb : Below w.heap.size w w') => hT.below hb)
  have HM := Lib.hid (fun w' (hb : Below w.heap.size w w') => hM.below hb)
  have hn300 : kids.length ≤ 300 := by
    have := len_le_sizes kids
    have h2 := hok.2.1
    rw [size] at h2
    omega
  have hall : (mapL ks kids).length ≤ 300 := by
    have h2 := (lines_wide hok (by rw [say.Nums, say.numss_iff]; exact hnums)).1
    rw [lines_map h0] at h2
    exact h2
  have Hall := Lib.hid hall
  have hsh := hok.2.2
  rw [Shape] at hsh
  have Hkl := Lib.hid (hsh.1.2.2.2.2.2.2.2 rfl)
  have Hko := Lib.hid hsh.2.2.1
  clear hsh
  obtain ⟨p0, p1, p2, p3, p4, p5⟩ := Row6.of hbox1
  have Hbox1 := Lib.hid hbox1
  rw [hw1] at p0 p1 p2 p3 p4 p5
  unfold maxLen at hc2 hc4
  
  clear hl hk hr hb1 hbox1 hw1 hok hP hT hM hs IH0 hnums hall
  go_enter Tryz.func23, Tryz.ntmps23
  go_wp2_with fail
  rw [← Hw1.out]
  refine HS.out.mono ?_
  rintro e w2 ⟨rfl, hb2⟩
  have hb12 := below_link Hb1.out hb2 Hb1.out.size
  have hbox2 := heap_kept hb2 (heap_lt Hbox1.out) Hbox1.out
  have Hk2 := Lib.hid (Hk.out.below hb2)
  have Hr2 := Lib.hid (Hr.out.below hb2)
  obtain ⟨w3, hw3⟩ : ∃ w3, w3 = w2.alloc (.cells #[] 9) := ⟨_, rfl⟩
  have hb23 : Below w2.heap.size w2 w3 := by rw [hw3]; exact alloc_below _ _
  have hown3 : w3.ownsRow w2.heap.size 9 1 (.slice (some ⟨w2.heap.size, 0, none⟩) 0 0) 0 (scells []) := by rw [hw3]; exact World.ownsRow_lit w2 #[] 0 (Nat.le_refl _) (by simp [maxLen]) rfl
  have Hb2 := Lib.hid hb12
  have Hown3 := Lib.hid hown3
  have Hb23 := Lib.hid hb23
  have Hbox2 := Lib.hid hbox2
  have Hw3 := Lib.hid hw3
  clear HS hb2 hb12 hbox2 hown3 hb23 hw3 p0 p1 p2 p3 p4 p5 Hw1 Hb1 Hbox1 Hk Hr
  go_upto_region 5 with fail
  rw [← Hw3.out]
  clear Hw3
  obtain ⟨p0, p1, p2, p3, p4, p5⟩ := Row6.of (heap_kept Hb23.out (heap_lt Hbox2.out) Hbox2.out)
  go_wp2_with fail
  clear p0 p1 p2 p3 p4 p5
  go_loopw [5, 20] (fun v i wr => ∃ (j m : Nat) (l : List ByteArray), j ≤ kids.length ∧ i = .int .i64 j ∧ Hid (l.length = m) ∧ m ≤ 300 ∧ Hid (l = mapL (ks.take j) (kids.take j)) ∧ wr.ownsRow w2.heap.size 9 1 v m (scells l) ∧ Below w2.heap.size w2 wr) (fun _ i _ => kids.length - (intOf i).toNat)
  case atStart => exact ⟨0, 0, [], Nat.zero_le _, rfl, rfl, Nat.zero_le _, by simp [Hid, mapL], Hown3.out, Hb23.out⟩
  case round =>
    clear Hown3 Hb23
    obtain ⟨j, m, l, hj, rfl, hlm, hm4, hl, hown, hbel⟩ := hrel
    have hszr := hbel.size
    by_cases hlt : j < kids.length
    · obtain ⟨g, o, rfl, hg, hkid⟩ := Hk2.out (by omega)
      have hmem : kids[j] ∈ kids := List.getElem_mem hlt
      obtain ⟨u0, u1, u2, u3, u4, u5, hsix, hls⟩ := hkid j kids[j] (List.getElem?_eq_getElem hlt)
      have hone : (#[u0, u1, u2, u3, u4, u5] : Array Value).all (·.oneCell') = true := by have := say.one_of_lies hls; simpa using this
      have hokx := ok_kid Hok.out hmem
      have hwide := lines_wide hokx (Hnd.out _ hmem)
      have hX := mapL_take Hkl.out hlt
      have HX := Lib.hid hX
      have hXl : (mapL (ks.take (j + 1)) (kids.take (j + 1))).length ≤ 300 := Nat.le_trans (mapL_take_le ks kids (j + 1)) Hall.out
      have Hl := Lib.hid hl.out
      have Hlm := Lib.hid hlm.out
      obtain ⟨q0, q1, q2, q3, q4, q5⟩ := hsix.block (hbel.block g hg)
      have hbw := below_link Hb2.out hbel Hb2.out.size
      have hltk : j < ks.length := by have := Hkl.out; omega
      have hkt : TextOk ks[j] := by
        have := (Hko.out j hltk).1
        rwa [List.getD_eq_getElem?_getD, List.getElem?_eq_getElem hltk] at this
      obtain ⟨gk, ok, rfl, hgk, hck⟩ := Hr2.out.2 (by omega)
      have hcell0 : wr.cell? ⟨gk, ok + j, none⟩ = some (.string ks[j]) := (hbel.cell (p := ⟨gk, ok + j, none⟩) hgk).trans (hck j hltk _ (scells_get ks j hltk))
      have HC := Lib.hid (fun w' (hb : Below w2.heap.size w2 w') (hbb : Below w.heap.size w w') => impl_pair f IH.out ks[j] kids[j] _ w' (hls.below hb) hokx hkt (HP.out _ hbb) (HT.out _ hbb) (HM.out _ hbb))
      have hple : (pairL ks[j] kids[j] (linesF kids[j])).length ≤ 300 := by
        have h1 := congrArg List.length hX
        rw [List.length_append] at h1
        omega
      have hpne : 0 < (pairL ks[j] kids[j] (linesF kids[j])).length := by rw [pair_length]; split <;> omega
      generalize ks[j] = key at hcell0 HC HX hple hpne
      generalize pairL key kids[j] (linesF kids[j]) = L at HC HX hple hpne
      have Hst := Lib.hid (show mapL (ks.take (j + 1)) (kids.take (j + 1)) = l ++ L by rw [HX.out, Hl.out])
      have hroom : m + L.length ≤ 300 := by
        have h1 := congrArg List.length Hst.out
        have h2 := Hlm.out
        rw [List.length_append] at h1
        omega
      clear hck hX hkt hgk hwide hokx hkid hmem hls hsix
      obtain ⟨w4, hw4⟩ : ∃ w4, w4 = wr.alloc (.cells #[u0, u1, u2, u3, u4, u5] 30) := ⟨_, rfl⟩
      have hb4 : Below w2.heap.size w2 w4 := by rw [hw4]; exact hbel.alloc hszr _
      have hrow4 : w4.heap[wr.heap.size]? = some (.cells #[u0, u1, u2, u3, u4, u5] 30 (0, 0)) := by rw [hw4]; exact heap_alloc_new wr _
      obtain ⟨r0, r1, r2, r3, r4, r5⟩ := Row6.of hrow4
      have hown4 := hown.alloc (.cells #[u0, u1, u2, u3, u4, u5] 30)
      rw [← hw4] at hown4
      have hboxr := heap_kept hbel (heap_lt Hbox2.out) Hbox2.out
      obtain ⟨p0, p1, p2, p3, p4, p5⟩ := Row6.of hboxr
      have hbox4 := heap_kept (alloc_below wr (.cells #[u0, u1, u2, u3, u4, u5] 30)) (heap_lt hboxr) hboxr
      rw [← hw4] at hbox4
      obtain ⟨s0, s1, s2, s3, s4, s5⟩ := Row6.of hbox4
      
      have Hw4 := Lib.hid hw4
      have Hb4 := Lib.hid hb4
      have hlt4 : w2.heap.size ≤ w4.heap.size := hb4.size
      have hcell4 : w4.cell? ⟨gk, ok + j, none⟩ = some (.string key) := by rw [hw4]; exact ((alloc_below wr _).cell (p := ⟨gk, ok + j, none⟩) (World.block_lt_of_cell? _ _ hcell0)).trans hcell0
      have HC4 := Lib.hid (HC.out w4.drew (hb4.trans (Below.refl _ _).drew) ((below_link Hb2.out hb4 Hb2.out.size).trans (Below.refl _ _).drew))
      clear hw4 hb4 hrow4 hown hbel hszr hboxr hbox4 HC p0 p1 p2 p3 p4 p5 hcell0 HX Hl
      go_upto_region 8 with (first | (refine wpList_store_row rfl 30 _ _ rfl wr.heap.size #[u0, u1, u2, u3, u4, u5] rfl rfl 30 _ (heap_alloc_new wr _) tree_size' rfl hone ?_; rw [World.setRow_alloc_new]) | fail)
      rw [← Hw4.out]
      go_wp2_with fail
      go_region_law (first | (refine step_append_at rfl (.tmp 28) (.tmp 35) 22 rfl w2.heap.size 9 i0 (.string ⟨#[]⟩) 1 16 Tryz.underlying22 hi hz0 hz1 hz2 rfl (by decide) _ m _ rfl hown5 ⟨g5, o5, none⟩ L.length c5 (scells L) rfl (by rw [scells_length]; omega) (by exact hcells5) (strs_one _) (by unfold maxLen; omega) (by omega) hsz5 ?_; intro v7 w7 hown7 hg7 hat7) | (go_simp; go_at_call 38; refine (HC4.out).mono ?_; rintro e w5 ⟨v5, rfl, hown5', hb5⟩; obtain ⟨A5, c5, rfl, hc5, hm5, hr5⟩ := Rd.of_own hown5'; obtain ⟨g5, o5, rfl, hg5, hc50⟩ := hr5.2 hpne; have hb45 : Below w4.heap.size w4 w5 := (Below.refl _ _).drew.trans (hb5.mono (Nat.le_refl _)); have hown5 := own_below' hown4 hb45; have hbel5 := below_link Hb4.out hb45 hlt4; have hsz5 := hbel5.size; have hcells5 : ∀ (j : Nat) (u : Value), (scells L)[j]? = some u → w5.cell? ((⟨g5, o5, none⟩ : Addr).add j) = some u := fun j u hu => by rw [Addr.add_lit]; exact hc50 j (by have := (List.getElem?_eq_some_iff.1 hu).1; rwa [scells_length] at this) u hu))
      all_goals
        have Hown7 := Lib.hid (show w7.ownsRow w2.heap.size 9 1 v7 (m + L.length) (scells (l ++ L)) by rw [scells_append]; exact hown7)
        have Hb7 := Lib.hid (hbel5.grown hg7 hsz5 (fun b hb => (hown5.lt b hb).1))
        clear hown7 hg7 hat7 hown5 hbel5 hsz5 hcells5 hc50 hr5 hb5 hown5' hb45
        go_wp2_with fail
        go_roundw
        case rel => exact ⟨j + 1, m + L.length, l ++ L, by omega, by go_num, by unfold Hid; rw [List.length_append, Hlm.out], hroom, Hst.out.symm, Hown7.out, Hb7.out⟩
        case measure => simp [intOf]; omega
    · obtain rfl : j = kids.length := by omega
      have Hl9 := Lib.hid (show l = mapL ks kids by rw [hl.out, ← Hkl.out, List.take_length, Hkl.out, List.take_length])
      have Hlm := Lib.hid hlm.out
      have Hown := Lib.hid hown
      have Hbel := Lib.hid hbel
      clear hl hlm hown hbel
      go_wp2_with fail
      go_ret
      exact ⟨_, rfl, by rw [← Hl9.out, Hlm.out]; exact own_lower Hown.out Hb2.out.size, below_link Hb2.out Hbel.out Hb2.out.size⟩
end Go.Proofs.YtbfkkaafkinpmaaGreatDoor.ind
namespace Go.Proofs.YtbfkkaafkinpmaaGreatDoor.ind
open Go.ChangeShapes Go.WideShapes Go.ChangeAt Go.RowKit tree line
open rune (Tabs)
open decimal (Pow)
set_option linter.unusedVariables false

theorem impl_lines : ∀ f : Nat, LinI f
  | 0 => by
    intro t vs w h
    obtain ⟨k, fl, n, s, ks, kids⟩ := t
    obtain ⟨_, _, _, _, _, _, _, _, _, _, _, _, _, _, f', hf, _⟩ := open_tree h
    omega
  | f + 1 => by
    intro t vs w h hok hP hT hM
    have IH := impl_lines f
    obtain ⟨k, fl, n, s, ks, kids⟩ := t
    have hl := h
    obtain ⟨A1, c1, A2, c2, rfl, wk, wn, hs, hc1, hc2, hr, hks, hc3, hc4, f', hf, hk⟩ := open_tree h
    obtain rfl : f = f' := by omega
    by_cases h0 : kids.length = 0
    · exact of_leafI f k fl n s ks kids A1 A2 c1 c2 w hl h0 hok hP hT hM
    by_cases h6 : k = 6
    · subst h6
      rw [lines_map h0]
      exact of_mapI f IH fl n s ks kids A1 A2 c1 c2 w hl hk hr hc1 hc2 hc3 hc4 h0 hok hP hT hM
    · rw [lines_list h0 h6]
      exact of_listI f IH k h6 fl n s ks kids A1 A2 c1 c2 w hl hk hr hc1 hc2 hc3 hc4 h0 hok hP hT hM

set_option maxRecDepth 100000 in
set_option maxHeartbeats 4000000 in
theorem impl_rows (f : Nat) (t : T) (vs : List Value) (w : World) (h : LiesS w f vs (row t)) (hsz : size t ≤ 1099511627776) (hP : Pow w) (hT : Tabs w) (hM : MaxL w) :
    Calls Tryz.prog 8 #[.agg vs.toArray] w (OutL w (rowsT t)) := by
  obtain ⟨u0, u1, u2, u3, u4, u5, rfl⟩ := six_of (h.1.trans (row_length _))
  obtain ⟨w1, hw1⟩ : ∃ w1, w1 = w.alloc (.cells #[u0, u1, u2, u3, u4, u5] 30) := ⟨_, rfl⟩
  have hb1 : Below w.heap.size w w1 := by rw [hw1]; exact alloc_below _ _
  have hrow1 : w1.heap[w.heap.size]? = some (.cells #[u0, u1, u2, u3, u4, u5] 30 (0, 0)) := by rw [hw1]; exact heap_alloc_new w _
  have HO := Lib.hid (impl_okay f t _ w1 (h.below hb1) hsz (hT.below hb1))
  have Hb1 := Lib.hid hb1
  have Hrow1 := Lib.hid hrow1
  have Hw1 := Lib.hid hw1
  have HLt := Lib.hid (fun (hok : Ok t) w2 (hb2 : Below w1.heap.size w1 w2) => impl_lines f t _ w2 ((h.below hb1).below hb2) hok ((hP.below hb1).below hb2) ((hT.below hb1).below hb2) ((hM.below hb1).below hb2))
  obtain ⟨p0, p1, p2, p3, p4, p5⟩ := Row6.of hrow1
  rw [hw1] at p0 p1 p2 p3 p4 p5
  clear h hb1 hrow1 hw1 hP hT hM
  by_cases hok : Ok t
  · rw [show dec (Ok t) = true by unfold dec; simp [hok]] at HO
    rw [rows_yes hok]
    have HLt := Lib.hid (HLt.out hok)
    generalize linesF t = l at HLt ⊢
    clear hok
    go_enter Tryz.func8, Tryz.ntmps8
    go_wp2_with fail
    rw [← Hw1.out]
    refine HO.out.mono ?_
    rintro e w2 ⟨rfl, hb2⟩
    have HL := Lib.hid (HLt.out w2 hb2)
    have hb12 := below_link Hb1.out hb2 Hb1.out.size
    have Hb2 := Lib.hid hb12
    have hrow2 := heap_kept hb2 (heap_lt Hrow1.out) Hrow1.out
    clear p0 p1 p2 p3 p4 p5 HO Hw1 Hb1 hb2 hb12 HLt
    obtain ⟨p0, p1, p2, p3, p4, p5⟩ := Row6.of hrow2
    clear hrow2
    go_wp2_with fail
    refine HL.out.mono ?_
    rintro e w3 ⟨v3, rfl, hown3, hb3⟩
    have Hown3 := Lib.hid (own_lower hown3 Hb2.out.size)
    have Hb3 := Lib.hid (below_link Hb2.out hb3 Hb2.out.size)
    clear HL hown3 hb3 p0 p1 p2 p3 p4 p5
    go_wp2_with fail
    go_ret
    exact ⟨_, rfl, Hown3.out, Hb3.out⟩
  · rw [show dec (Ok t) = false by unfold dec; simp [hok]] at HO
    rw [rows_no hok]
    clear hok HLt
    go_enter Tryz.func8, Tryz.ntmps8
    go_wp2_with fail
    rw [← Hw1.out]
    refine HO.out.mono ?_
    rintro e w2 ⟨rfl, hb2⟩
    have Hb2 := Lib.hid (below_link Hb1.out hb2 Hb1.out.size)
    clear p0 p1 p2 p3 p4 p5 HO Hw1 Hb1 hb2
    go_wp2_with fail
    go_ret
    exact ⟨_, rfl, World.ownsRow_nil _ _ _ _, Hb2.out⟩
end Go.Proofs.YtbfkkaafkinpmaaGreatDoor.ind
