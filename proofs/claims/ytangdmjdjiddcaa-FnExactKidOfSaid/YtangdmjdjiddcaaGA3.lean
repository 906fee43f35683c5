/- Merged: TrTo TrEq TrMark TrMarkT. -/
import Derived.Test.YtangdmjdjiddcaaGA2
import Derived.Test.YtangdmjdjiddcaaGA7
import Derived.Deep.WholeRow
namespace Go.Proofs.Ytangdmjdjiddcaa.tree
open Go.ChangeShapes Go.WideShapes Go.ChangeAt Go.RowKit
set_option linter.unusedVariables false

theorem tree_size : (Try.prog.info? 31).map (·.size) = some 6 := by kernel_rfl
theorem tree_one (k : Int) (fl : Bool) (n : Int) (s : ByteArray) (A1 A2 : Option Addr) (n1 c1 n2 c2 : Nat) : (#[.int .i64 k, .bool fl, .int .i64 n, .string s, .slice A1 n1 c1, .slice A2 n2 c2] : Array Value).all (·.oneCell') = true := by simp [Value.oneCell']
/-- At a depth. -/
def ToKids (f : Nat) : Prop := ∀ (A : Option Addr) (c : Nat) (kids : List T) (w : World), kids.length ≤ c → c ≤ maxLen → KidsAt w f A kids → kids.length + weights kids ≤ 1048576 →
  Calls Try.prog 19 #[.slice A kids.length c] w fun e w' => ∃ A' c', e = .returned (.slice A' kids.length c') ∧ OwnRow w' w.heap.size (f + 2) 31 6 (.slice A' kids.length c') kids.length (rows kids) ∧ Below w.heap.size w w'
def TreeOut (B f : Nat) (t : T) (e : Ending) (w' : World) : Prop := ∃ us F, e = .returned (.agg us.toArray) ∧ OwnS w' B f us (row t) F ∧ F.Nodup

theorem to_of {f : Nat} (hP : ToKids f) (t : T) (vs : List Value) (w : World) (h : LiesS w (f + 1) vs (row t)) (hw : weight t ≤ 1048576) :
    Calls Try.prog 9 #[.agg vs.toArray] w fun e w' => TreeOut w.heap.size (f + 3) t e w' ∧ Below w.heap.size w w' := by
  obtain ⟨k, fl, n, s, ks, kids⟩ := t
  obtain ⟨A1, c1, A2, c2, rfl, wk, wn, hs, hc1, hc2, hr, hks, hc3, hc4, f', hf, hk⟩ := open_tree h
  obtain rfl : f = f' := by omega
  clear h hf
  rw [weight] at hw
  obtain ⟨w1, hw1⟩ : ∃ w1, w1 = ((w.alloc (.cells #[.int .i64 k, .bool fl, .int .i64 n, .string s, .slice A1 ks.length c1, .slice A2 kids.length c2] 27)).alloc (.cells #[.int .i64 0, .bool false, .int .i64 0, .string ⟨#[]⟩, .slice none 0 0, .slice none 0 0] 31)).alloc (.cells #[.int .i64 k, .bool fl, .int .i64 n, .string s, .slice none 0 0, .slice none 0 0] 31) := ⟨_, rfl⟩
  have hsz : w1.heap.size = w.heap.size + 3 := by subst hw1; simp
  have hb1 : Below w.heap.size w w1 := by subst hw1; exact (((Below.refl _ _).alloc (Nat.le_refl _) _).alloc (by simp) _).alloc (by simp; omega) _
  have h10 : w1.heap[w.heap.size]? = some (.cells #[.int .i64 k, .bool fl, .int .i64 n, .string s, .slice A1 ks.length c1, .slice A2 kids.length c2] 27 (0, 0)) := by
    subst hw1
    rw [Below.heap_alloc _ _ _ (by simp; omega), Below.heap_alloc _ _ _ (by simp)]
    exact heap_alloc_new w _
  have h11 : w1.heap[w.heap.size + 1]? = some (.cells #[.int .i64 0, .bool false, .int .i64 0, .string ⟨#[]⟩, .slice none 0 0, .slice none 0 0] 31 (0, 0)) := by
    subst hw1
    rw [Below.heap_alloc _ _ _ (by simp)]
    have h := heap_alloc_new (w.alloc (.cells #[.int .i64 k, .bool fl, .int .i64 n, .string s, .slice A1 ks.length c1, .slice A2 kids.length c2] 27)) (.cells #[.int .i64 0, .bool false, .int .i64 0, .string ⟨#[]⟩, .slice none 0 0, .slice none 0 0] 31)
    simpa using h
  have h12 : w1.heap[w.heap.size + 2]? = some (.cells #[.int .i64 k, .bool fl, .int .i64 n, .string s, .slice none 0 0, .slice none 0 0] 31 (0, 0)) := by
    subst hw1
    have h := heap_alloc_new ((w.alloc (.cells #[.int .i64 k, .bool fl, .int .i64 n, .string s, .slice A1 ks.length c1, .slice A2 kids.length c2] 27)).alloc (.cells #[.int .i64 0, .bool false, .int .i64 0, .string ⟨#[]⟩, .slice none 0 0, .slice none 0 0] 31)) (.cells #[.int .i64 k, .bool fl, .int .i64 n, .string s, .slice none 0 0, .slice none 0 0] 31)
    simpa using h
  have HS := Lib.hid (lawStr.to_any A1 ks.length c1 ks w1 (by omega) rfl (hr.below hb1))
  have HP := Lib.hid (fun w2 (hb : Below w.heap.size w w2) => hP A2 c2 kids w2 hc3 hc4 (hk.below hb) (by omega))
  have Hw := Lib.hid (show (Lit.int .i64 k).wf = true ∧ (Lit.int .i64 n).wf = true ∧ s.size ≤ maxLen ∧ ∀ x ∈ ks, x.size ≤ maxLen from ⟨wk, wn, hs, hks⟩)
  have H10 := Lib.hid h10
  have H11 := Lib.hid h11
  have H12 := Lib.hid h12
  have Hb1 := Lib.hid hb1
  have Hsz := Lib.hid hsz
  have Hw1 := Lib.hid hw1
  clear hr hks hk hP hc1 hc2 hc3 hc4 hw wk wn hs h10 h11 h12 hb1 hsz hw1
  go_enter Try.func9, Try.ntmps9
  go_wp2_with fail
  rw [← Hw1.out]
  refine HS.out.mono ?_
  rintro e w2 ⟨g1, rfl, hown1, hb2⟩
  have Hown1 := Lib.hid (ownRow_strs (f := f + 1) hown1 Hw.out.2.2.2)
  have h20 := heap_kept hb2 (by rw [Hsz.out]; omega) H10.out
  have h21 := heap_kept hb2 (by rw [Hsz.out]; omega) H11.out
  have h22 := heap_kept hb2 (by rw [Hsz.out]; omega) H12.out
  have Hb2 := Lib.hid (Hb1.out.trans (hb2.mono Hb1.out.size))
  have p4 : w2.cell? ⟨w.heap.size + 2, 4, none⟩ = some (.slice none 0 0) := by rw [cell_of_row w2 _ 4 _ _ _ h22]; rfl
  have f4 := frozen_of_row w2 _ 4 _ _ h22
  have h30 : (w2.setCell ⟨w.heap.size + 2, 4, none⟩ (.slice (some ⟨g1, 0, none⟩) ks.length ks.length)).heap[w.heap.size]? = _ := (Below.heap_setCell _ _ _ _ (by show w.heap.size ≠ w.heap.size + 2; omega)).trans h20
  have h31 : (w2.setCell ⟨w.heap.size + 2, 4, none⟩ (.slice (some ⟨g1, 0, none⟩) ks.length ks.length)).heap[w.heap.size + 1]? = _ := (Below.heap_setCell _ _ _ _ (by show w.heap.size + 1 ≠ w.heap.size + 2; omega)).trans h21
  have h32 : (w2.setCell ⟨w.heap.size + 2, 4, none⟩ (.slice (some ⟨g1, 0, none⟩) ks.length ks.length)).heap[w.heap.size + 2]? = some (.cells #[.int .i64 k, .bool fl, .int .i64 n, .string s, .slice (some ⟨g1, 0, none⟩) ks.length ks.length, .slice none 0 0] 31 (0, 0)) := heap_setCell_same _ _ _ _ _ _ h22
  have p5 : (w2.setCell ⟨w.heap.size + 2, 4, none⟩ (.slice (some ⟨g1, 0, none⟩) ks.length ks.length)).cell? ⟨w.heap.size, 5, none⟩ = some (.slice A2 kids.length c2) := by rw [cell_of_row _ _ 5 _ _ _ h30]; rfl
  have hb3 : Below w.heap.size w (w2.setCell ⟨w.heap.size + 2, 4, none⟩ (.slice (some ⟨g1, 0, none⟩) ks.length ks.length)) := Hb2.out.setCell (by show w.heap.size ≤ w.heap.size + 2; omega) _
  have hor3 : OwnRow (w2.setCell ⟨w.heap.size + 2, 4, none⟩ (.slice (some ⟨g1, 0, none⟩) ks.length ks.length)) w1.heap.size (f + 2) 9 1 (.slice (some ⟨g1, 0, none⟩) ks.length ks.length) ks.length (ks.map C.str) :=
    own_row_setCell Hown1.out (by show w.heap.size + 2 < w1.heap.size; rw [Hsz.out]; omega)
  have HP3 := Lib.hid (HP.out _ hb3)
  have H31 := Lib.hid h31
  have H32 := Lib.hid h32
  have Hb3 := Lib.hid hb3
  obtain ⟨F1, hok, nd1, rg1⟩ := hor3.own
  have Hok := Lib.hid hok
  have Hn1 := Lib.hid nd1
  have Hr1 := Lib.hid rg1
  have Hs3 := Lib.hid (show w1.heap.size ≤ (w2.setCell ⟨w.heap.size + 2, 4, none⟩ (.slice (some ⟨g1, 0, none⟩) ks.length ks.length)).heap.size by simpa [World.setCell] using hb2.size)
  clear HS HP hown1 hb2 h20 h21 h22 h30 h31 h32 hb3 hor3 hok nd1 rg1 Hown1 H10 H11 H12 Hb1 Hw1 Hb2
  go_wp2_with fail
  generalize w2.setCell ⟨w.heap.size + 2, 4, none⟩ (.slice (some ⟨g1, 0, none⟩) ks.length ks.length) = w3 at *
  refine HP3.out.mono ?_
  rintro e w4 ⟨A', c', rfl, hown4, hb4⟩
  have h41 := heap_kept hb4 (heap_lt H31.out) H31.out
  have h42 := heap_kept hb4 (heap_lt H32.out) H32.out
  obtain ⟨F2, hok2, nd2, rg2⟩ := hown4.own
  have Hok4 := Lib.hid (Hok.out.below hb4)
  have Hb4 := Lib.hid (Hb3.out.trans (hb4.mono Hb3.out.size))
  have p6 : w4.cell? ⟨w.heap.size + 2, 5, none⟩ = some (.slice none 0 0) := by rw [cell_of_row w4 _ 5 _ _ _ h42]; rfl
  have f6 := frozen_of_row w4 _ 5 _ _ h42
  have h51 : (w4.setCell ⟨w.heap.size + 2, 5, none⟩ (.slice A' kids.length c')).heap[w.heap.size + 1]? = _ := (Below.heap_setCell _ _ _ _ (by show w.heap.size + 1 ≠ w.heap.size + 2; omega)).trans h41
  have h52 : (w4.setCell ⟨w.heap.size + 2, 5, none⟩ (.slice A' kids.length c')).heap[w.heap.size + 2]? = some (.cells #[.int .i64 k, .bool fl, .int .i64 n, .string s, .slice (some ⟨g1, 0, none⟩) ks.length ks.length, .slice A' kids.length c'] 31 (0, 0)) := heap_setCell_same _ _ _ _ _ _ h42
  have Hb5 := Lib.hid (show Below w.heap.size w (w4.setCell ⟨w.heap.size + 2, 5, none⟩ (.slice A' kids.length c')) from Hb4.out.setCell (by show w.heap.size ≤ w.heap.size + 2; omega) _)
  have hlt3 : w.heap.size + 2 < w3.heap.size := heap_lt H32.out
  have Hok5 := Lib.hid (Hok4.out.setCell_low (o := 5) (u := .slice A' kids.length c') (show w.heap.size + 2 < w1.heap.size by rw [Hsz.out]; omega))
  have Hkid5 := Lib.hid (hok2.setCell_low (o := 5) (u := .slice A' kids.length c') hlt3)
  have Hd5 := Lib.hid (show ∀ x ∈ F1, x ∉ F2 from fun x hx hy => by have h1 := (Hr1.out x hx).2; have h2 := (rg2 x hy).1; omega)
  have Hn2 := Lib.hid nd2
  have Hs5 := Lib.hid (Nat.le_trans Hs3.out hb4.size)
  clear hown4 hb4 HP3 h41 h42 H31 H32 Hb3 Hok Hok4 hok2 nd2 rg2 Hb4 p4 p5 f4
  have h51' := h51
  have h52' := h52
  clear h51 h52
  generalize hw5 : w4.setCell ⟨w.heap.size + 2, 5, none⟩ (.slice A' kids.length c') = w5 at *
  have H51 := Lib.hid h51'
  go_wp2_with (first | (refine wpList_load_row rfl 31 _ rfl (w.heap.size + 2) rfl 31 #[.int .i64 k, .bool fl, .int .i64 n, .string s, .slice (some ⟨g1, 0, none⟩) ks.length ks.length, .slice A' kids.length c'] (0, 0) _ h52' Try.underlying31 rfl tree_size ?_) | (refine wpList_store_row rfl 31 _ _ rfl (w.heap.size + 1) #[.int .i64 k, .bool fl, .int .i64 n, .string s, .slice (some ⟨g1, 0, none⟩) ks.length ks.length, .slice A' kids.length c'] rfl rfl 31 _ h51' tree_size rfl (tree_one _ _ _ _ _ _ _ _ _ _) ?_) | fail)
  have Hok6 := (Hok5.out.setRow_low (c := #[.int .i64 k, .bool fl, .int .i64 n, .string s, .slice (some ⟨g1, 0, none⟩) ks.length ks.length, .slice A' kids.length c']) (show w.heap.size + 1 < w1.heap.size by rw [Hsz.out]; omega)).lower (B' := w.heap.size) (by rw [Hsz.out]; omega)
  have Hkid6 := (Hkid5.out.setRow_low (c := #[.int .i64 k, .bool fl, .int .i64 n, .string s, .slice (some ⟨g1, 0, none⟩) ks.length ks.length, .slice A' kids.length c']) (show w.heap.size + 1 < w3.heap.size by omega)).lower (B' := w.heap.size) (by omega)
  obtain ⟨F, ho, hnd, _⟩ := own_tree (fl := fl) Hw.out.1 Hw.out.2.1 Hw.out.2.2.1 Hok6 Hkid6 Hn1.out Hn2.out Hd5.out
  refine bodyPost_ret (v := .agg #[.int .i64 k, .bool fl, .int .i64 n, .string s, .slice (some ⟨g1, 0, none⟩) ks.length ks.length, .slice A' kids.length c']) ?_ rfl ⟨⟨_, F, rfl, ho, hnd⟩, setRow_below Hb5.out (by omega) _⟩
  exact results_cell_row rfl _ _ (w.heap.size + 1) _ _ (0, 0) _ rfl (setRow_at H51.out) Try.underlying31 rfl tree_size

theorem TryinfoTree : (Try.prog.info? 31).map (fun i => (i.zero, i.size, i.bytes)) = some (some (.agg #[.int .i64 0, .bool false, .int .i64 0, .string ⟨#[]⟩, .slice none 0 0, .slice none 0 0]), 6, 88) := by kernel_rfl

set_option maxRecDepth 100000 in
theorem to_kids_step {f : Nat} (hE : ∀ (t : T) (vs : List Value) (w : World), LiesS w f vs (row t) → weight t ≤ 1048576 →
    Calls Try.prog 9 #[.agg vs.toArray] w fun e w' => TreeOut w.heap.size (f + 2) t e w' ∧ Below w.heap.size w w') : ToKids f := by
  intro A c kids w hc hm hk hw
  obtain ⟨i0, hi, hz0, hz1, hz2⟩ := info_parts TryinfoTree
  have Hk := Lib.hid hk
  have HE := Lib.hid hE
  clear hk hE
  unfold maxLen at hm
  go_enter Try.func19, Try.ntmps19
  go_wp2_with (at_make; refine wpList_make_full _ rfl _ _ 29 rfl w.heap.size 31 i0 _ 6 Try.underlying29 hi hz0 hz1 .i64 .i64 (kids.length : Int) (kids.length : Int) kids.length rfl rfl rfl rfl (by rw [hz2]; omega) (by unfold maxLen; omega) (by simp) ?_)
  intro w1 hown1 hg1
  have hb1 : Below w.heap.size w w1 := (Below.refl _ _).grown hg1 (Nat.le_refl _) (fun b hb => by cases hb)
  obtain ⟨xs, hown⟩ : ∃ xs : List Value, w1.ownsRow w.heap.size 31 6 (.slice (some ⟨w.heap.size, 0, none⟩) kids.length kids.length) kids.length xs := ⟨_, hown1⟩
  have Hown := Lib.hid hown
  have Hb1 := Lib.hid hb1
  clear hown1 hown hb1 hg1
  go_wp2_with fail
  go_loopw [4] (fun i wr => ∃ (k : Nat) (xs : List Value) (F : List Nat), k ≤ kids.length ∧ i = .int .i64 k ∧ wr.ownsRow w.heap.size 31 6 (.slice (some ⟨w.heap.size, 0, none⟩) kids.length kids.length) kids.length xs ∧
    OwnS wr w.heap.size (f + 2) (xs.take (k * 6)) (rows (kids.take k)) F ∧ F.Nodup ∧ (∀ x ∈ F, x ≠ w.heap.size) ∧ Below w.heap.size w wr) (fun i _ => kids.length - (intOf i).toNat)
  case atStart => exact ⟨0, xs, [], Nat.zero_le _, rfl, Hown.out, by simpa [rows] using OwnS.nil, List.nodup_nil, (fun x hx => by cases hx), Hb1.out⟩
  case round =>
    clear Hown Hb1 xs
    obtain ⟨k, xs, F, hk, rfl, hown, ho, hnd, hne, hbel⟩ := hrel
    by_cases hlt : k < kids.length
    · obtain ⟨g, o, rfl, hg, hkid⟩ := (Hk.out.below hbel) (by omega)
      obtain ⟨u0, u1, u2, u3, u4, u5, ⟨q0, q1, q2, q3, q4, q5⟩, hls⟩ := hkid k kids[k] (List.getElem?_eq_getElem hlt)
      have hwk : weight kids[k] ≤ 1048576 := by
        have h1 : weights kids = weights (kids.take (k + 1)) + weights (kids.drop (k + 1)) := by rw [← weights_append, List.take_append_drop]
        rw [List.take_succ_eq_append_getElem hlt, weights_append] at h1
        have h2 : weights [kids[k]] = weight kids[k] := by simp [weights]
        omega
      have hr1 : rows (kids.take (k + 1)) = rows (kids.take k) ++ row kids[k] := by
        rw [List.take_succ_eq_append_getElem hlt, rows_append]
        simp [rows]
      have Hr1 := Lib.hid hr1
      have HC := Lib.hid (HE.out kids[k] _ wr hls hwk)
      have Hown := Lib.hid hown
      have Ho := Lib.hid ho
      have Hbel := Lib.hid hbel
      have hlb : w.heap.size < wr.heap.size := (hown.lt w.heap.size rfl).2
      have Hlb := Lib.hid hlb
      clear hkid hls hg hwk hr1 hown ho hbel hlb
      generalize kids[k] = x at HC Hr1
      go_wp2_with fail
      refine HC.out.mono ?_
      rintro e w2 ⟨⟨us, G, rfl, hoG, hnG⟩, hb2⟩
      have hlen : us.length = 6 := by rw [hoG.1, row_length]
      have hown2 := own_below' Hown.out hb2
      have ho2 := Ho.out.below hb2
      have hthere := own_there hown2 (k * 6) us.toArray.size (by simp [hlen]; omega)
      have hone := hoG.one
      have hsize : (Try.prog.info? 31).map (·.size) = some us.toArray.size := by rw [List.size_toArray, hlen]; exact tree_size
      have Hfill := Lib.hid (own_fill hown2 hlt hlen ho2 hnd hne (hoG.lower (Nat.le_trans Hbel.out.size (Nat.le_refl _))) hnG (fun y hy hyG => by have h1 := (Ho.out.range y hy).2; have h2 := (hoG.range y hyG).1; omega) (fun y hy => by have h1 := (hoG.range y hy).1; have h2 := Hlb.out; omega) rfl)
      have Hbel2 := Lib.hid (Hbel.out.trans (hb2.mono Hbel.out.size))
      clear HC hoG hnG hb2 hown2 ho2 Ho hnd hne Hown Hbel q0 q1 q2 q3 q4 q5
      go_wp2_with (first | (refine Go.wpList_store_mid rfl 31 _ _ rfl w.heap.size (k * 6) us.toArray rfl rfl hthere hsize hone ?_) | fail)
      have hf := Hfill.out
      rw [← Hr1.out] at hf
      have hbel3 : Below w.heap.size w (w2.setCells w.heap.size (k * 6) us) := Hbel2.out.grown hf.2.2.2.2 Hbel2.out.size (fun b hb => by injection hb with hb; omega)
      have HF := Lib.hid hf
      have Hbel3 := Lib.hid hbel3
      clear hf hbel3 Hfill hthere hone hsize
      go_wp2_with fail
      go_roundw
      case rel => exact ⟨k + 1, _, _, by omega, by go_num, HF.out.1, HF.out.2.1, HF.out.2.2.1, HF.out.2.2.2.1, Hbel3.out⟩
      case measure => simp [intOf]; omega
    · obtain rfl : k = kids.length := by omega
      rw [List.take_of_length_le (Nat.le_refl _)] at ho
      have HR := Lib.hid (own_filled hown (by rw [rows_length]) ho hnd hne)
      have Hbel := Lib.hid hbel
      clear hown ho hbel
      go_wp2_with fail
      go_ret
      exact ⟨_, _, rfl, HR.out, Hbel.out⟩
theorem to_kids : ∀ f, ToKids f
  | 0 => to_kids_step (fun t vs w h => by
      obtain ⟨k, fl, n, s, ks, kids⟩ := t
      obtain ⟨_, _, _, _, _, _, _, _, _, _, _, _, _, _, f', hf, _⟩ := open_tree h
      omega)
  | f + 1 => to_kids_step (fun t vs w h hw => to_of (to_kids f) t vs w h hw)
/-- toTree of a tree that lies in memory. -/
theorem to_tree {f : Nat} (t : T) (vs : List Value) (w : World) (h : LiesS w f vs (row t)) (hw : weight t ≤ 1048576) :
    Calls Try.prog 9 #[.agg vs.toArray] w fun e w' => TreeOut w.heap.size (f + 3) t e w' ∧ Below w.heap.size w w' :=
  to_of (to_kids f) t vs w (h.deeper (Nat.le_succ f)) hw
end Go.Proofs.Ytangdmjdjiddcaa.tree
namespace Go.Proofs.Ytangdmjdjiddcaa.tree
open Go.ChangeShapes Go.WideShapes Go.ChangeAt Go.RowKit
set_option linter.unusedVariables false

/-- At a depth. -/
def EqKids (f : Nat) : Prop := ∀ (A1 A2 : Option Addr) (c1 c2 : Nat) (kids : List T) (w : World), kids.length ≤ c1 → c1 ≤ maxLen → kids.length ≤ c2 → c2 ≤ maxLen → KidsAt w f A1 kids → KidsAt w f A2 kids →
  Calls Try.prog 23 #[.slice A1 kids.length c1, .slice A2 kids.length c2] w fun e w' => e = .returned (.bool true) ∧ Below w.heap.size w w'
theorem eq_of {f : Nat} (hP : EqKids f) (t : T) (vs us : List Value) (w : World) (h1 : LiesS w (f + 1) vs (row t)) (h2 : LiesS w (f + 1) us (row t)) :
    Calls Try.prog 11 #[.agg vs.toArray, .agg us.toArray] w fun e w' => e = .returned (.bool true) ∧ Below w.heap.size w w' := by
  obtain ⟨k, fl, n, s, ks, kids⟩ := t
  obtain ⟨A1, c1, A2, c2, rfl, _, _, hs, hc1, hc2, hr, hks, hc3, hc4, f', hf, hk⟩ := open_tree h1
  obtain rfl : f = f' := by omega
  obtain ⟨B1, d1, B2, d2, rfl, _, _, _, hd1, hd2, hr', hks', hd3, hd4, f', hf, hk'⟩ := open_tree h2
  obtain rfl : f = f' := by omega
  clear h1 h2 hf
  have HB1 := Lib.hid (Box.new 31 w [.int .i64 k, .bool fl, .int .i64 n, .string s, .slice A1 ks.length c1, .slice A2 kids.length c2])
  have HB2 := Lib.hid (HB1.out.below ((Below.refl _ _).alloc (Nat.le_refl _) (.cells #[.int .i64 k, .bool fl, .int .i64 n, .string s, .slice B1 ks.length d1, .slice B2 kids.length d2] 31)))
  have HB3 := Lib.hid (Box.new 31 (w.alloc (.cells #[.int .i64 k, .bool fl, .int .i64 n, .string s, .slice A1 ks.length c1, .slice A2 kids.length c2] 31)) [.int .i64 k, .bool fl, .int .i64 n, .string s, .slice B1 ks.length d1, .slice B2 kids.length d2])
  have hsz : (w.alloc (.cells #[.int .i64 k, .bool fl, .int .i64 n, .string s, .slice A1 ks.length c1, .slice A2 kids.length c2] 31)).heap.size = w.heap.size + 1 := by simp
  have HE := Lib.hid (fun w1 (hb : Below w.heap.size w w1) => lawStr.eq_yes A1 B1 ks.length c1 d1 ks w1 (by omega) rfl (hr.below hb) (hr'.below hb))
  have HK := Lib.hid (fun w1 (hb : Below w.heap.size w w1) => hP A2 B2 c2 d2 kids w1 hc3 hc4 hd3 hd4 (hk.below hb) (hk'.below hb))
  have p0 := HB2.out.cell (j := 0) rfl
  have p1 := HB2.out.cell (j := 1) rfl
  have p2 := HB2.out.cell (j := 2) rfl
  have p3 := HB2.out.cell (j := 3) rfl
  have p4 := HB2.out.cell (j := 4) rfl
  have p5 := HB2.out.cell (j := 5) rfl
  have q0 := HB3.out.cell (j := 0) rfl
  have q1 := HB3.out.cell (j := 1) rfl
  have q2 := HB3.out.cell (j := 2) rfl
  have q3 := HB3.out.cell (j := 3) rfl
  have q4 := HB3.out.cell (j := 4) rfl
  have q5 := HB3.out.cell (j := 5) rfl
  rw [hsz] at q0 q1 q2 q3 q4 q5
  have hq := HB3.out.2
  have hbb := HB2.out.1
  have Hp := Lib.hid HB2.out.2
  rw [hsz] at hq
  have Hq := Lib.hid hq
  clear hr hr' hks hks' hk hk' hP hc1 hc2 hc3 hc4 hd1 hd2 hd3 hd4 HB1 HB3 hq
  have Hbb := Lib.hid hbb
  clear hbb HB2
  go_enter Try.func11, Try.ntmps11
  go_wp2_with fail
  refine (HE.out _ Hbb.out).mono ?_
  rintro e w1 ⟨rfl, q, rfl⟩
  go_wp2_with fail
  refine (HK.out _ (below_drewN Hbb.out q)).mono ?_
  rintro e w1 ⟨rfl, hb1⟩
  have Hb1 := Lib.hid ((below_drewN Hbb.out q).trans (hb1.mono (below_drewN Hbb.out q).size))
  clear hb1
  go_wp2_with fail
  go_ret
  exact ⟨rfl, Hb1.out⟩
theorem eq_kids_step {f : Nat} (hE : ∀ (t : T) (vs us : List Value) (w : World), LiesS w f vs (row t) → LiesS w f us (row t) →
    Calls Try.prog 11 #[.agg vs.toArray, .agg us.toArray] w fun e w' => e = .returned (.bool true) ∧ Below w.heap.size w w') : EqKids f := by
  intro A1 A2 c1 c2 kids w hc1 hm1 hc2 hm2 hk1 hk2
  unfold maxLen at hm1 hm2
  have Hk1 := Lib.hid hk1
  have Hk2 := Lib.hid hk2
  have HE := Lib.hid hE
  clear hk1 hk2 hE
  go_enter Try.func23, Try.ntmps23
  go_wp2_with fail
  go_loopw [5] (fun i wr => ∃ (j : Nat), j ≤ kids.length ∧ i = .int .i64 j ∧ Below w.heap.size w wr) (fun i _ => kids.length - (intOf i).toNat)
  case atStart => exact ⟨0, Nat.zero_le _, rfl, Below.refl _ _⟩
  case round =>
    obtain ⟨j, hj, rfl, hbel⟩ := hrel
    by_cases hlt : j < kids.length
    · obtain ⟨g1, o1, rfl, hg1, hkid1⟩ := (Hk1.out.below hbel) (by omega)
      obtain ⟨g2, o2, rfl, hg2, hkid2⟩ := (Hk2.out.below hbel) (by omega)
      obtain ⟨u0, u1, u2, u3, u4, u5, ⟨q0, q1, q2, q3, q4, q5⟩, hls1⟩ := hkid1 j kids[j] (List.getElem?_eq_getElem hlt)
      obtain ⟨v0, v1, v2, v3, v4, v5, ⟨r0, r1, r2, r3, r4, r5⟩, hls2⟩ := hkid2 j kids[j] (List.getElem?_eq_getElem hlt)
      have HC := Lib.hid (fun w1 (hb : Below wr.heap.size wr w1) => HE.out kids[j] _ _ w1 (hls1.below hb) (hls2.below hb))
      have Hbel := Lib.hid hbel
      clear hkid1 hkid2 hls1 hls2 hbel hg1 hg2
      go_wp2_with fail
      go_region_law (go_simp; go_at_call 11; refine (HC.out _ (Below.refl _ _).drew).mono ?_; rintro e w1 ⟨rfl, hb1⟩)
      all_goals
        have hbel1 := Hbel.out.trans (((Below.refl _ _).drew.trans (hb1.mono (Nat.le_refl _))).mono Hbel.out.size)
        clear hb1 q0 q1 q2 q3 q4 q5 r0 r1 r2 r3 r4 r5
        go_wp2_with fail
        go_roundw
        case rel => exact ⟨j + 1, by omega, by go_num, hbel1⟩
        case measure => simp [intOf]; omega
    · obtain rfl : j = kids.length := by omega
      have Hbel := Lib.hid hbel
      clear hbel
      go_wp2_with fail
      go_ret
      exact ⟨rfl, Hbel.out⟩
theorem eq_kids : ∀ f, EqKids f
  | 0 => eq_kids_step (fun t vs us w h => by
      obtain ⟨k, fl, n, s, ks, kids⟩ := t
      obtain ⟨_, _, _, _, _, _, _, _, _, _, _, _, _, _, f', hf, _⟩ := open_tree h
      omega)
  | f + 1 => eq_kids_step (fun t vs us w h1 h2 => eq_of (eq_kids f) t vs us w h1 h2)
/-- eqTree on two equal trees in memory. -/
theorem eq_tree {f : Nat} (t : T) (vs us : List Value) (w : World) (h1 : LiesS w f vs (row t)) (h2 : LiesS w f us (row t)) :
    Calls Try.prog 11 #[.agg vs.toArray, .agg us.toArray] w fun e w' => e = .returned (.bool true) ∧ Below w.heap.size w w' :=
  eq_of (eq_kids f) t vs us w (h1.deeper (Nat.le_succ f)) (h2.deeper (Nat.le_succ f))
end Go.Proofs.Ytangdmjdjiddcaa.tree
namespace Go.Proofs.Ytangdmjdjiddcaa.tree
open Go.ChangeShapes Go.WideShapes Go.ChangeAt Go.RowKit
open lawStr
set_option linter.unusedVariables false

mutual
def cost : T → Nat
  | .mk _ _ _ _ ks kids => 4 + ks.length + costs kids
def costs : List T → Nat
  | [] => 0
  | t :: r => cost t + costs r
end
theorem costs_append : ∀ a b : List T, costs (a ++ b) = costs a + costs b
  | [], b => by simp [costs]
  | t :: r, b => by rw [List.cons_append, costs, costs, costs_append r b]; omega
theorem cost_le : ∀ t, cost t ≤ 4 + 5 * weight t := by
  refine T.ind fun k f n s ks kids ih => ?_
  rw [cost, weight]
  have : costs kids ≤ 5 * (kids.length + weights kids) := by
    clear f n s ks k
    induction kids with
    | nil => simp [costs]
    | cons a r ih2 =>
      rw [costs, weights, List.length_cons]
      have h1 := ih a List.mem_cons_self
      have h2 := ih2 (fun x hx => ih x (List.mem_cons_of_mem _ hx))
      omega
  omega
mutual
def markT : T → Int → T
  | .mk _ _ _ _ ks kids, k => .mk k (decide ((k + 1) % 3 = 0)) (k + 2) (lawStr.mt (k + 3)) (marks (k + 4) ks.length) (markTs kids (k + 4 + ks.length))
def markTs : List T → Int → List T
  | [], _ => []
  | t :: r, k => markT t k :: markTs r (k + cost t)
end
theorem markTs_length : ∀ (l : List T) (k : Int), (markTs l k).length = l.length
  | [], _ => rfl
  | t :: r, k => by rw [markTs, List.length_cons, List.length_cons, markTs_length r]
theorem markTs_append : ∀ (a b : List T) (k : Int), markTs (a ++ b) k = markTs a k ++ markTs b (k + costs a)
  | [], b, k => by simp [markTs, costs]
  | t :: r, b, k => by
    rw [List.cons_append, markTs, markTs, markTs_append r b, costs, List.cons_append]
    congr 3
    omega
theorem dg_length : ∀ (f m : Nat) (acc : List UInt8), (dg f m acc).length ≤ f + acc.length
  | 0, m, acc => by simp [dg]
  | f + 1, m, acc => by
    rw [dg]
    split
    · omega
    · have h := dg_length f (m / 10) (UInt8.ofNat (48 + m % 10) :: acc)
      rw [List.length_cons] at h
      omega
theorem mt_size (m : Int) (h : m ≤ 4611686018427387904) : (lawStr.mt m).size ≤ maxLen := by
  unfold lawStr.mt maxLen
  split
  · decide
  · show (109 :: dg m.toNat m.toNat []).toArray.size ≤ _
    rw [List.size_toArray, List.length_cons]
    have := dg_length m.toNat m.toNat []
    simp at this
    omega
theorem wf_of {k : Int} (h0 : -9223372036854775808 ≤ k) (h1 : k ≤ 9223372036854775807) : (Lit.int .i64 k).wf = true := by
  have e1 : IntKind.i64.min = -9223372036854775808 := rfl
  have e2 : IntKind.i64.max = 9223372036854775807 := rfl
  simp [Lit.wf, e1, e2]
  omega
/-- At a depth. -/
def MarkKids (f : Nat) : Prop := ∀ (B : Nat) (v : Value) (kids : List T) (F : List Nat) (k : Int) (w : World), Own w B (f + 1) v (.sl 6 kids.length (rows kids)) F → F.Nodup → 0 ≤ k → k + costs kids ≤ 4611686018427387904 →
  Calls Try.prog 25 #[v, .int .i64 k] w fun e w' => e = .returned (.int .i64 (k + costs kids)) ∧ Own w' B (f + 1) v (.sl 6 kids.length (rows (markTs kids k))) F ∧ KeptBut F w w'

theorem mark_kids_nil (f B : Nat) (k : Int) (w : World) (h0 : 0 ≤ k) (hk : k ≤ 4611686018427387904) :
    Calls Try.prog 25 #[.slice none 0 0, .int .i64 k] w fun e w' => e = .returned (.int .i64 k) ∧ w' = w := by
  go_enter Try.func25, Try.ntmps25
  go_wp2_with fail
  refine wp_loop_rounds 1 ?_
  rw [rounds_succ]
  go_wp2_with fail
  go_ret
  exact ⟨rfl, rfl⟩

set_option maxRecDepth 100000 in
set_option maxHeartbeats 8000000 in
theorem mark_kids_step {f : Nat} (hP : ∀ f', f = f' + 1 → MarkKids f') : MarkKids f := by
  intro B v kids F k w hown hnd h0 hk
  have hown' := hown
  obtain ⟨hl, ⟨rfl, hn, rfl⟩ | ⟨g, c, cur, e, Fs, rfl, h1, h2, h3, h4, hz, hF, h5, h6⟩⟩ := hown'
  · have : kids = [] := List.eq_nil_of_length_eq_zero hn
    subst this
    rw [costs] at hk ⊢
    refine (mark_kids_nil f B k w h0 (by omega)).mono ?_
    rintro e w' ⟨rfl, rfl⟩
    exact ⟨by simp, by simpa [markTs] using hown, KeptBut.refl _ _⟩
  have hcm : kids.length ≤ 9223372036854775807 := by unfold maxLen at h2; omega
  clear hl h3 h4 hz hF h5 h6 cur e Fs
  have HP := Lib.hid hP
  have Hown := Lib.hid hown
  clear hown hP
  go_enter Try.func25, Try.ntmps25
  go_wp2_with fail
  go_loopw [1, 5] (fun a i wr => ∃ (j : Nat), j ≤ kids.length ∧ i = .int .i64 j ∧ a = .int .i64 (k + costs (kids.take j)) ∧ Own wr B (f + 1) (.slice (some ⟨g, 0, none⟩) kids.length c) (.sl 6 kids.length (rows (markTs (kids.take j) k ++ kids.drop j))) F ∧ KeptBut F w wr) (fun _ i _ => kids.length - (intOf i).toNat)
  case atStart => exact ⟨0, Nat.zero_le _, rfl, by simp [costs], by simpa [markTs] using Hown.out, KeptBut.refl _ _⟩
  case round =>
    clear Hown
    obtain ⟨j, hj, rfl, rfl, hown, hkb⟩ := hrel
    by_cases hlt : j < kids.length
    · obtain ⟨kd, fl, nm, s, ks, kk, hx⟩ : ∃ kd fl nm s ks kk, kids[j] = T.mk kd fl nm s ks kk := by
        cases hx : kids[j] with
        | mk kd fl nm s ks kk => exact ⟨kd, fl, nm, s, ks, kk, rfl⟩
      have hdrop : kids.drop j = kids[j] :: kids.drop (j + 1) := List.drop_eq_getElem_cons hlt
      have htake : kids.take (j + 1) = kids.take j ++ [kids[j]] := List.take_succ_eq_append_getElem hlt
      have hall : costs kids = costs (kids.take j) + (costs [kids[j]] + costs (kids.drop (j + 1))) := by
        rw [← costs_append, ← costs_append, List.singleton_append, ← hdrop, List.take_append_drop]
      have hone : costs [kids[j]] = 4 + ks.length + costs kk := by rw [hx]; simp [costs, cost]
      have hnext : costs (kids.take (j + 1)) = costs (kids.take j) + (4 + ks.length + costs kk) := by rw [htake, costs_append, hone]
      have hmark : markTs (kids.take (j + 1)) k ++ kids.drop (j + 1) = markTs (kids.take j) k ++ (markT kids[j] (k + costs (kids.take j)) :: kids.drop (j + 1)) := by
        rw [htake, markTs_append]
        simp [markTs]
      rw [hdrop, rows_append, rows, hx] at hown
      have Hmark := Lib.hid hmark
      rw [hx] at Hmark
      have HL := Lib.hid (show (rows (markTs (kids.take j) k)).length = j * 6 by rw [rows_length, markTs_length, List.length_take]; congr 1; omega)
      have Hnext := Lib.hid hnext
      generalize costs (kids.take j) = C0 at *
      have hkk : k + C0 + 4 + ks.length + costs kk ≤ 4611686018427387904 := by omega
      clear hmark hnext hall hone hx hdrop htake
      obtain ⟨K, hK⟩ : ∃ K, k + C0 = K := ⟨_, rfl⟩
      rw [hK] at hkk Hmark ⊢
      have hK0 : 0 ≤ K := by omega
      have HK := Lib.hid hK
      clear hK
      generalize hLL : rows (markTs (kids.take j) k) = L at *
      generalize hRR : rows (kids.drop (j + 1)) = R at *
      have hown0 : Own wr B (f + 1) (.slice (some ⟨g, 0, none⟩) kids.length c) (.sl 6 kids.length (mid L (row (.mk kd fl nm s ks kk)) R)) F := hown
      clear hown
      cases f with
      | zero =>
        obtain ⟨_, _, _, _, ho, _⟩ := Own.field hown0 hnd HL.out (r := 0) rfl
        exact ho.elim
      | succ f =>
      obtain ⟨o1, b1, ⟨q1, p1⟩, f1⟩ := Own.put (r := 0) (d' := .int .i64 K) (u' := .int .i64 K) hown0 hnd HL.out rfl trivial (fun w' => own_int (wf_of (by omega) (by omega)))
      obtain ⟨o2, b2, ⟨q2, p2⟩, f2⟩ := Own.put (r := 1) (d' := .bool (decide ((K + 1) % 3 = 0))) (u' := .bool ((K + 1) % 3 == 0)) o1 hnd HL.out rfl trivial (fun w' => by rw [show ((K + 1) % 3 == 0) = decide ((K + 1) % 3 = 0) from rfl]; exact own_bool)
      obtain ⟨o3, b3, ⟨q3, p3⟩, f3⟩ := Own.put (r := 2) (d' := .int .i64 (K + 2)) (u' := .int .i64 (K + 2)) o2 hnd HL.out rfl trivial (fun w' => own_int (wf_of (by omega) (by omega)))
      have hkb3 := ((hkb.trans b1).trans b2).trans b3
      simp only [Nat.add_zero] at o1 b1 p1 f1 o2 b2 p2 f2 o3 b3 p3 f3 hkb3
      have Ho3 := Lib.hid o3
      have Hkb3 := Lib.hid hkb3
      have HMT := Lib.hid (fun w => mark_text (K + 3) w (by omega))
      have e3 : (K + 1) + 1 = K + 2 := by omega
      have e4 : (K + 2) + 1 = K + 3 := by omega
      clear hown0 o1 o2 o3 b1 b2 b3 hkb hkb3
      go_wp2_with fail
      refine (HMT.out _).mono ?_
      rintro e w4 ⟨rfl, hb4⟩
      have o4 := Ho3.out.below hb4
      have hkb4 := Hkb3.out.trans (KeptBut.of_below hb4)
      obtain ⟨o5, b5, ⟨q5, p5⟩, f5⟩ := Own.put (r := 3) (d' := .str (lawStr.mt (K + 3))) (u' := .string (lawStr.mt (K + 3))) o4 hnd HL.out rfl trivial (fun w' => own_str (mt_size _ (by omega)))
      have hkb5 := hkb4.trans b5
      obtain ⟨u6, F6, q6, _, o6, hs6, _, _, hd6, back6⟩ := Own.field (r := 4) (d := .sl 1 ks.length (skeys ks)) o5 hnd HL.out rfl
      obtain ⟨e6, r6, _, hF6⟩ := own_strs_row (ks := ks) o6
      have e5 : (K + 3) + 1 = K + 4 := by omega
      have HM := Lib.hid (lawStr.mark_any B ks.length u6 (K + 4) (scells ks) _ r6 (by omega) (by omega))
      have Ho6 := Lib.hid o6
      have Hback6 := Lib.hid back6
      have Hkb5 := Lib.hid hkb5
      have Hs6 := Lib.hid hs6
      have HF6 := Lib.hid hF6
      clear q1 p1 f1 q2 p2 f2 q3 p3 f3 HMT hb4 o4 hkb4 o5 b5 hkb5 o6 hs6 back6 r6 hF6 Ho3 Hkb3
      go_wp2_with fail
      refine HM.out.mono ?_
      rintro e w6 ⟨rfl, r7, g7⟩
      have kb7 := KeptBut.of_row g7 HF6.out
      have o7 := own_strs_again Ho6.out r7 (by rw [marks_length]) (fun x hx => by
        simp only [marks, List.mem_map, List.mem_range] at hx
        obtain ⟨m, hm, rfl⟩ := hx
        exact mt_size _ (by omega)) HF6.out
      have o8 := Hback6.out w6 _ kb7 o7
      have hkb8 := Hkb5.out.trans (kb7.mono Hs6.out)
      obtain ⟨u9, F9, q9, _, o9, hs9, _, _, hd9, back9⟩ := Own.field (r := 5) (d := .sl 6 kk.length (rows kk)) o8 hnd HL.out rfl
      have HPk := Lib.hid (HP.out f rfl B u9 kk F9 (K + 4 + ks.length) w6 o9 hd9 (by omega) (by omega))
      have Hback9 := Lib.hid back9
      have Hkb8 := Lib.hid hkb8
      have Hs9 := Lib.hid hs9
      clear HM r7 g7 kb7 o7 o8 hkb8 o9 hs9 back9 Ho6 Hback6 Hkb5 Hs6 HF6 q5 p5 f5 q6
      go_wp2_with fail
      refine HPk.out.mono ?_
      rintro e w10 ⟨rfl, o10, kb10⟩
      have o11 := Hback9.out w10 _ kb10 o10
      have Hkb11 := Lib.hid (Hkb8.out.trans (kb10.mono Hs9.out))
      have Ho11 : Hid (Own w10 B (f + 1 + 1) (.slice (some ⟨g, 0, none⟩) kids.length c) (.sl 6 kids.length (rows (markTs (kids.take (j + 1)) k ++ kids.drop (j + 1)))) F) := by
        unfold Hid
        rw [Hmark.out, rows_append, rows, hLL, hRR, markT, row, marks_length, markTs_length]
        exact o11
      clear HPk o10 kb10 o11 Hback9 Hkb8 Hs9 q9
      go_wp2_with fail
      go_roundw
      case rel => exact ⟨j + 1, by omega, by go_num, by rw [Hnext.out]; have := HK.out; congr 1; omega, Ho11.out, Hkb11.out⟩
      case measure => simp [intOf]; omega
    · obtain rfl : j = kids.length := by omega
      rw [List.take_of_length_le (Nat.le_refl _), List.drop_of_length_le (Nat.le_refl _), List.append_nil] at hown
      have Hown := Lib.hid hown
      have Hkb := Lib.hid hkb
      clear hown hkb
      rw [List.take_of_length_le (Nat.le_refl _)]
      go_wp2_with fail
      go_ret
      exact ⟨rfl, Hown.out, Hkb.out⟩
theorem mark_kids : ∀ f, MarkKids f
  | 0 => mark_kids_step (fun f' hf => by omega)
  | f + 1 => mark_kids_step (fun f' hf => by obtain rfl : f = f' := by omega
                                             exact mark_kids f)
end Go.Proofs.Ytangdmjdjiddcaa.tree
namespace Go.Proofs.Ytangdmjdjiddcaa.tree
open Go.ChangeShapes Go.WideShapes Go.ChangeAt Go.RowKit
open lawStr
set_option linter.unusedVariables false

/-- What markTree leaves of a tree that was handed in by value. -/
def topT : T → Int → T
  | .mk kd f n s ks kids, k => .mk kd f n s (marks k ks.length) (markTs kids (k + ks.length))
def topCost : T → Nat
  | .mk _ _ _ _ ks kids => ks.length + costs kids
theorem topCost_le (t : T) : topCost t ≤ 5 * weight t + 5 := by
  cases t with
  | mk kd f n s ks kids =>
    have h := cost_le (.mk kd f n s ks kids)
    rw [cost] at h
    rw [topCost]
    omega
theorem mark_tree {B f : Nat} (t : T) (vs : List Value) (F : List Nat) (k : Int) (w : World) (h : OwnS w B f vs (row t) F) (hnd : F.Nodup) (h0 : 0 ≤ k) (hk : k + topCost t ≤ 4611686018427387904) :
    Calls Try.prog 12 #[.agg vs.toArray, .int .i64 k] w fun e w' => e = .returned (.int .i64 (k + topCost t)) ∧ OwnS w' B f vs (row (topT t k)) F ∧ KeptBut F w w' := by
  obtain ⟨kd, fl, nm, s, ks, kids⟩ := t
  obtain ⟨v1, v2, F1, F2, rfl, wk, wn, ws, o1, o2, rfl, n1, n2, hd⟩ := owned_tree h hnd
  rw [topCost] at hk ⊢
  cases f with
  | zero => exact o1.elim
  | succ f =>
  have hb0 : Below w.heap.size w (w.alloc (.cells #[.int .i64 kd, .bool fl, .int .i64 nm, .string s, v1, v2] 31)) := (Below.refl _ _).alloc (Nat.le_refl _) _
  have h10 : (w.alloc (.cells #[.int .i64 kd, .bool fl, .int .i64 nm, .string s, v1, v2] 31)).heap[w.heap.size]? = some (.cells #[.int .i64 kd, .bool fl, .int .i64 nm, .string s, v1, v2] 31 (0, 0)) := heap_alloc_new w _
  have p4 := cell_of_row _ _ 4 _ _ _ h10
  have p4' : (w.alloc (.cells #[.int .i64 kd, .bool fl, .int .i64 nm, .string s, v1, v2] 31)).cell? ⟨w.heap.size, 4, none⟩ = some v1 := p4
  clear p4
  have o1' := o1.below hb0
  have o2' := o2.below hb0
  have rg1 := o1.range
  have rg2 := o2.range
  obtain ⟨e6, r6, _, hF6⟩ := own_strs_row (ks := ks) o1'
  have HM := Lib.hid (lawStr.mark_any B ks.length v1 k (scells ks) _ r6 h0 (by omega))
  have H10 := Lib.hid h10
  have Ho1 := Lib.hid o1'
  have Ho2 := Lib.hid o2'
  have Hw := Lib.hid (show (Lit.int .i64 kd).wf = true ∧ (Lit.int .i64 nm).wf = true ∧ s.size ≤ maxLen from ⟨wk, wn, ws⟩)
  have Hd := Lib.hid hd
  have Hb0 := Lib.hid (KeptBut.of_below (F := F1 ++ F2) hb0)
  have Hsz := Lib.hid (show w.heap.size < (w.alloc (.cells #[.int .i64 kd, .bool fl, .int .i64 nm, .string s, v1, v2] 31)).heap.size from heap_lt h10)
  have HF6 := Lib.hid hF6
  have Hr1 := Lib.hid rg1
  have Hr2 := Lib.hid rg2
  clear h hnd o1 o2 o1' o2' r6 h10 wk wn ws hd hb0 hF6 rg1 rg2
  go_enter Try.func12, Try.ntmps12
  go_wp2_with fail
  refine HM.out.mono ?_
  rintro e w2 ⟨rfl, r7, g7⟩
  have kb7 := KeptBut.of_row g7 HF6.out
  have o7 := own_strs_again Ho1.out r7 (by rw [marks_length]) (fun x hx => by
    simp only [marks, List.mem_map, List.mem_range] at hx
    obtain ⟨m, hm, rfl⟩ := hx
    exact mt_size _ (by omega)) HF6.out
  have o8 := Ho2.out.but kb7 (fun x hx hy => Hd.out x hy hx)
  have p5 : w2.cell? ⟨w.heap.size, 5, none⟩ = some v2 := by
    rw [cell_of_row w2 w.heap.size 5 _ _ _ ((kb7.block w.heap.size Hsz.out (fun hx => by have := (Hr1.out _ hx).2; omega)).trans H10.out)]
    rfl
  have HP := Lib.hid (mark_kids f B v2 kids F2 (k + ks.length) w2 o8 n2 (by omega) (by omega))
  have Ho7 := Lib.hid o7
  have Hkb7 := Lib.hid (Hb0.out.trans (kb7.mono (fun x hx => List.mem_append_left _ hx)))
  clear HM r7 g7 kb7 o7 o8 Ho1 Ho2 H10 Hb0 p4'
  go_wp2_with fail
  refine HP.out.mono ?_
  rintro e w3 ⟨rfl, o9, kb9⟩
  have Ho10 := Lib.hid (Ho7.out.but kb9 (fun x hx hy => Hd.out x hx hy))
  have Ho9 := Lib.hid o9
  have Hkb9 := Lib.hid (Hkb7.out.trans (kb9.mono (fun x hx => List.mem_append_right _ hx)))
  clear HP o9 kb9 Ho7 Hkb7 p5
  go_wp2_with fail
  go_ret
  refine ⟨ret_int (by simp; omega), ?_, Hkb9.out⟩
  rw [topT, row, marks_length, markTs_length]
  have h := OwnS.cons (own_int (w := w3) (B := B) (f := f) Hw.out.1) (OwnS.cons (own_bool (b := fl)) (OwnS.cons (own_int Hw.out.2.1) (OwnS.cons (own_str Hw.out.2.2) (OwnS.cons Ho10.out (OwnS.cons Ho9.out OwnS.nil)))))
  simpa [skeys] using h

end Go.Proofs.Ytangdmjdjiddcaa.tree
