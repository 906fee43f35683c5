/- Merged: TrTo TrEq CellA TrInfo RowE SameB PathKeyS. -/
import Derived.Test.YtangdmjdjiddcaaDoorGA3
import Derived.Test.YtangdmjdjiddcaaDoorGA5
import Derived.Deep.WholeRow
import Derived.Maps.AppendAt
import Derived.Test.YtangdmjdjiddcaaDoorRows
import Derived.ProofKit
import Derived.OpenShut
import Derived.Test.YtangdmjdjiddcaaDoorCell
import Derived.Test.YtangdmjdjiddcaaDoorGA1
namespace Go.Proofs.YtangdmjdjiddcaaDoor.tree
open Go.ChangeShapes Go.WideShapes Go.ChangeAt Go.RowKit
set_option linter.unusedVariables false

theorem tree_size : (Tryd.prog.info? 35).map (·.size) = some 6 := by kernel_rfl
theorem tree_one (k : Int) (fl : Bool) (n : Int) (s : ByteArray) (A1 A2 : Option Addr) (n1 c1 n2 c2 : Nat) : (#[.int .i64 k, .bool fl, .int .i64 n, .string s, .slice A1 n1 c1, .slice A2 n2 c2] : Array Value).all (·.oneCell') = true := by simp [Value.oneCell']
/-- At a depth. -/
def ToKids (f : Nat) : Prop := ∀ (A : Option Addr) (c : Nat) (kids : List T) (w : World), kids.length ≤ c → c ≤ maxLen → KidsAt w f A kids → kids.length + weights kids ≤ 1048576 →
  Calls Tryd.prog 39 #[.slice A kids.length c] w fun e w' => ∃ A' c', e = .returned (.slice A' kids.length c') ∧ OwnRow w' w.heap.size (f + 2) 35 6 (.slice A' kids.length c') kids.length (rows kids) ∧ Below w.heap.size w w'
def TreeOut (B f : Nat) (t : T) (e : Ending) (w' : World) : Prop := ∃ us F, e = .returned (.agg us.toArray) ∧ OwnS w' B f us (row t) F ∧ F.Nodup

theorem to_of {f : Nat} (hP : ToKids f) (t : T) (vs : List Value) (w : World) (h : LiesS w (f + 1) vs (row t)) (hw : weight t ≤ 1048576) :
    Calls Tryd.prog 14 #[.agg vs.toArray] w fun e w' => TreeOut w.heap.size (f + 3) t e w' ∧ Below w.heap.size w w' := by
  obtain ⟨k, fl, n, s, ks, kids⟩ := t
  obtain ⟨A1, c1, A2, c2, rfl, wk, wn, hs, hc1, hc2, hr, hks, hc3, hc4, f', hf, hk⟩ := open_tree h
  obtain rfl : f = f' := by omega
  clear h hf
  rw [weight] at hw
  obtain ⟨w1, hw1⟩ : ∃ w1, w1 = ((w.alloc (.cells #[.int .i64 k, .bool fl, .int .i64 n, .string s, .slice A1 ks.length c1, .slice A2 kids.length c2] 27)).alloc (.cells #[.int .i64 0, .bool false, .int .i64 0, .string ⟨#[]⟩, .slice none 0 0, .slice none 0 0] 35)).alloc (.cells #[.int .i64 k, .bool fl, .int .i64 n, .string s, .slice none 0 0, .slice none 0 0] 35) := ⟨_, rfl⟩
  have hsz : w1.heap.size = w.heap.size + 3 := by subst hw1; simp
  have hb1 : Below w.heap.size w w1 := by subst hw1; exact (((Below.refl _ _).alloc (Nat.le_refl _) _).alloc (by simp) _).alloc (by simp; omega) _
  have h10 : w1.heap[w.heap.size]? = some (.cells #[.int .i64 k, .bool fl, .int .i64 n, .string s, .slice A1 ks.length c1, .slice A2 kids.length c2] 27 (0, 0)) := by
    subst hw1
    rw [Below.heap_alloc _ _ _ (by simp; omega), Below.heap_alloc _ _ _ (by simp)]
    exact heap_alloc_new w _
  have h11 : w1.heap[w.heap.size + 1]? = some (.cells #[.int .i64 0, .bool false, .int .i64 0, .string ⟨#[]⟩, .slice none 0 0, .slice none 0 0] 35 (0, 0)) := by
    subst hw1
    rw [Below.heap_alloc _ _ _ (by simp)]
    have h := heap_alloc_new (w.alloc (.cells #[.int .i64 k, .bool fl, .int .i64 n, .string s, .slice A1 ks.length c1, .slice A2 kids.length c2] 27)) (.cells #[.int .i64 0, .bool false, .int .i64 0, .string ⟨#[]⟩, .slice none 0 0, .slice none 0 0] 35)
    simpa using h
  have h12 : w1.heap[w.heap.size + 2]? = some (.cells #[.int .i64 k, .bool fl, .int .i64 n, .string s, .slice none 0 0, .slice none 0 0] 35 (0, 0)) := by
    subst hw1
    have h := heap_alloc_new ((w.alloc (.cells #[.int .i64 k, .bool fl, .int .i64 n, .string s, .slice A1 ks.length c1, .slice A2 kids.length c2] 27)).alloc (.cells #[.int .i64 0, .bool false, .int .i64 0, .string ⟨#[]⟩, .slice none 0 0, .slice none 0 0] 35)) (.cells #[.int .i64 k, .bool fl, .int .i64 n, .string s, .slice none 0 0, .slice none 0 0] 35)
    simpa using h
  have HS := Lib.hid (lawStr.to_any A1 ks.length c1 ks w1 (by omega) rfl (hr.below hb1))
  have HP := Lib.hid (fun w2 (hb : Below w.heap.size w w2) => hP A2 c2 kids w2 hc3 hc4 (hk.below hb) (by omega))
  have Hw := Lib.hid (show (Lit.int .i64 k).wf = true ∧ (Lit.int .i64 n).wf = true ∧ s.size ≤ maxLen ∧ ∀ x ∈ ks, x.size ≤ maxLen from ⟨wk, wn, hs, hks⟩)
  have H10 := Lib.hid h10
  have H11 := Lib.hid h11
  have H12 := Lib.hid h12
  have Hb1 := Lib.hid hb1
  have Hsz := Lib.hid hsz
  have Hw1 := Lib.hid hw1
  clear hr hks hk hP hc1 hc2 hc3 hc4 hw wk wn hs h10 h11 h12 hb1 hsz hw1
  go_enter Tryd.func14, Tryd.ntmps14
  go_wp2_with fail
  rw [← Hw1.out]
  refine HS.out.mono ?_
  rintro e w2 ⟨g1, rfl, hown1, hb2⟩
  have Hown1 := Lib.hid (ownRow_strs (f := f + 1) hown1 Hw.out.2.2.2)
  have h20 := heap_kept hb2 (by rw [Hsz.out]; omega) H10.out
  have h21 := heap_kept hb2 (by rw [Hsz.out]; omega) H11.out
  have h22 := heap_kept hb2 (by rw [Hsz.out]; omega) H12.out
  have Hb2 := Lib.hid (Hb1.out.trans (hb2.mono Hb1.out.size))
  have p4 : w2.cell? ⟨w.heap.size + 2, 4, none⟩ = some (.slice none 0 0) := by rw [cell_of_row w2 _ 4 _ _ _ h22]; rfl
  have f4 := frozen_of_row w2 _ 4 _ _ h22
  have h30 : (w2.setCell ⟨w.heap.size + 2, 4, none⟩ (.slice (some ⟨g1, 0, none⟩) ks.length ks.length)).heap[w.heap.size]? = _ := (Below.heap_setCell _ _ _ _ (by show w.heap.size ≠ w.heap.size + 2; omega)).trans h20
  have h31 : (w2.setCell ⟨w.heap.size + 2, 4, none⟩ (.slice (some ⟨g1, 0, none⟩) ks.length ks.length)).heap[w.heap.size + 1]? = _ := (Below.heap_setCell _ _ _ _ (by show w.heap.size + 1 ≠ w.heap.size + 2; omega)).trans h21
  have h32 : (w2.setCell ⟨w.heap.size + 2, 4, none⟩ (.slice (some ⟨g1, 0, none⟩) ks.length ks.length)).heap[w.heap.size + 2]? = some (.cells #[.int .i64 k, .bool fl, .int .i64 n, .string s, .slice (some ⟨g1, 0, none⟩) ks.length ks.length, .slice none 0 0] 35 (0, 0)) := heap_setCell_same _ _ _ _ _ _ h22
  have p5 : (w2.setCell ⟨w.heap.size + 2, 4, none⟩ (.slice (some ⟨g1, 0, none⟩) ks.length ks.length)).cell? ⟨w.heap.size, 5, none⟩ = some (.slice A2 kids.length c2) := by rw [cell_of_row _ _ 5 _ _ _ h30]; rfl
  have hb3 : Below w.heap.size w (w2.setCell ⟨w.heap.size + 2, 4, none⟩ (.slice (some ⟨g1, 0, none⟩) ks.length ks.length)) := Hb2.out.setCell (by show w.heap.size ≤ w.heap.size + 2; omega) _
  have hor3 : OwnRow (w2.setCell ⟨w.heap.size + 2, 4, none⟩ (.slice (some ⟨g1, 0, none⟩) ks.length ks.length)) w1.heap.size (f + 2) 9 1 (.slice (some ⟨g1, 0, none⟩) ks.length ks.length) ks.length (ks.map C.str) :=
    own_row_setCell Hown1.out (by show w.heap.size + 2 < w1.heap.size; rw [Hsz.out]; omega)
  have HP3 := Lib.hid (HP.out _ hb3)
  have H31 := Lib.hid h31
  have H32 := Lib.hid h32
  have Hb3 := Lib.hid hb3
  obtain ⟨F1, hok, nd1, rg1⟩ := hor3.own
  have Hok := Lib.hid hok
  have Hn1 := Lib.hid nd1
  have Hr1 := Lib.hid rg1
  have Hs3 := Lib.hid (show w1.heap.size ≤ (w2.setCell ⟨w.heap.size + 2, 4, none⟩ (.slice (some ⟨g1, 0, none⟩) ks.length ks.length)).heap.size by simpa [World.setCell] using hb2.size)
  clear HS HP hown1 hb2 h20 h21 h22 h30 h31 h32 hb3 hor3 hok nd1 rg1 Hown1 H10 H11 H12 Hb1 Hw1 Hb2
  go_wp2_with fail
  generalize w2.setCell ⟨w.heap.size + 2, 4, none⟩ (.slice (some ⟨g1, 0, none⟩) ks.length ks.length) = w3 at *
  refine HP3.out.mono ?_
  rintro e w4 ⟨A', c', rfl, hown4, hb4⟩
  have h41 := heap_kept hb4 (heap_lt H31.out) H31.out
  have h42 := heap_kept hb4 (heap_lt H32.out) H32.out
  obtain ⟨F2, hok2, nd2, rg2⟩ := hown4.own
  have Hok4 := Lib.hid (Hok.out.below hb4)
  have Hb4 := Lib.hid (Hb3.out.trans (hb4.mono Hb3.out.size))
  have p6 : w4.cell? ⟨w.heap.size + 2, 5, none⟩ = some (.slice none 0 0) := by rw [cell_of_row w4 _ 5 _ _ _ h42]; rfl
  have f6 := frozen_of_row w4 _ 5 _ _ h42
  have h51 : (w4.setCell ⟨w.heap.size + 2, 5, none⟩ (.slice A' kids.length c')).heap[w.heap.size + 1]? = _ := (Below.heap_setCell _ _ _ _ (by show w.heap.size + 1 ≠ w.heap.size + 2; omega)).trans h41
  have h52 : (w4.setCell ⟨w.heap.size + 2, 5, none⟩ (.slice A' kids.length c')).heap[w.heap.size + 2]? = some (.cells #[.int .i64 k, .bool fl, .int .i64 n, .string s, .slice (some ⟨g1, 0, none⟩) ks.length ks.length, .slice A' kids.length c'] 35 (0, 0)) := heap_setCell_same _ _ _ _ _ _ h42
  have Hb5 := Lib.hid (show Below w.heap.size w (w4.setCell ⟨w.heap.size + 2, 5, none⟩ (.slice A' kids.length c')) from Hb4.out.setCell (by show w.heap.size ≤ w.heap.size + 2; omega) _)
  have hlt3 : w.heap.size + 2 < w3.heap.size := heap_lt H32.out
  have Hok5 := Lib.hid (Hok4.out.setCell_low (o := 5) (u := .slice A' kids.length c') (show w.heap.size + 2 < w1.heap.size by rw [Hsz.out]; omega))
  have Hkid5 := Lib.hid (hok2.setCell_low (o := 5) (u := .slice A' kids.length c') hlt3)
  have Hd5 := Lib.hid (show ∀ x ∈ F1, x ∉ F2 from fun x hx hy => by have h1 := (Hr1.out x hx).2; have h2 := (rg2 x hy).1; omega)
  have Hn2 := Lib.hid nd2
  have Hs5 := Lib.hid (Nat.le_trans Hs3.out hb4.size)
  clear hown4 hb4 HP3 h41 h42 H31 H32 Hb3 Hok Hok4 hok2 nd2 rg2 Hb4 p4 p5 f4
  have h51' := h51
  have h52' := h52
  clear h51 h52
  generalize hw5 : w4.setCell ⟨w.heap.size + 2, 5, none⟩ (.slice A' kids.length c') = w5 at *
  have H51 := Lib.hid h51'
  go_wp2_with (first | (refine wpList_load_row rfl 35 _ rfl (w.heap.size + 2) rfl 35 #[.int .i64 k, .bool fl, .int .i64 n, .string s, .slice (some ⟨g1, 0, none⟩) ks.length ks.length, .slice A' kids.length c'] (0, 0) _ h52' Tryd.underlying35 rfl tree_size ?_) | (refine wpList_store_row rfl 35 _ _ rfl (w.heap.size + 1) #[.int .i64 k, .bool fl, .int .i64 n, .string s, .slice (some ⟨g1, 0, none⟩) ks.length ks.length, .slice A' kids.length c'] rfl rfl 35 _ h51' tree_size rfl (tree_one _ _ _ _ _ _ _ _ _ _) ?_) | fail)
  have Hok6 := (Hok5.out.setRow_low (c := #[.int .i64 k, .bool fl, .int .i64 n, .string s, .slice (some ⟨g1, 0, none⟩) ks.length ks.length, .slice A' kids.length c']) (show w.heap.size + 1 < w1.heap.size by rw [Hsz.out]; omega)).lower (B' := w.heap.size) (by rw [Hsz.out]; omega)
  have Hkid6 := (Hkid5.out.setRow_low (c := #[.int .i64 k, .bool fl, .int .i64 n, .string s, .slice (some ⟨g1, 0, none⟩) ks.length ks.length, .slice A' kids.length c']) (show w.heap.size + 1 < w3.heap.size by omega)).lower (B' := w.heap.size) (by omega)
  obtain ⟨F, ho, hnd, _⟩ := own_tree (fl := fl) Hw.out.1 Hw.out.2.1 Hw.out.2.2.1 Hok6 Hkid6 Hn1.out Hn2.out Hd5.out
  refine bodyPost_ret (v := .agg #[.int .i64 k, .bool fl, .int .i64 n, .string s, .slice (some ⟨g1, 0, none⟩) ks.length ks.length, .slice A' kids.length c']) ?_ rfl ⟨⟨_, F, rfl, ho, hnd⟩, setRow_below Hb5.out (by omega) _⟩
  exact results_cell_row rfl _ _ (w.heap.size + 1) _ _ (0, 0) _ rfl (setRow_at H51.out) Tryd.underlying35 rfl tree_size

theorem TrydinfoTree : (Tryd.prog.info? 35).map (fun i => (i.zero, i.size, i.bytes)) = some (some (.agg #[.int .i64 0, .bool false, .int .i64 0, .string ⟨#[]⟩, .slice none 0 0, .slice none 0 0]), 6, 88) := by kernel_rfl

set_option maxRecDepth 100000 in
theorem to_kids_step {f : Nat} (hE : ∀ (t : T) (vs : List Value) (w : World), LiesS w f vs (row t) → weight t ≤ 1048576 →
    Calls Tryd.prog 14 #[.agg vs.toArray] w fun e w' => TreeOut w.heap.size (f + 2) t e w' ∧ Below w.heap.size w w') : ToKids f := by
  intro A c kids w hc hm hk hw
  obtain ⟨i0, hi, hz0, hz1, hz2⟩ := info_parts TrydinfoTree
  have Hk := Lib.hid hk
  have HE := Lib.hid hE
  clear hk hE
  unfold maxLen at hm
  go_enter Tryd.func39, Tryd.ntmps39
  go_wp2_with (at_make; refine wpList_make_full _ rfl _ _ 33 rfl w.heap.size 35 i0 _ 6 Tryd.underlying33 hi hz0 hz1 .i64 .i64 (kids.length : Int) (kids.length : Int) kids.length rfl rfl rfl rfl (by rw [hz2]; omega) (by unfold maxLen; omega) (by simp) ?_)
  intro w1 hown1 hg1
  have hb1 : Below w.heap.size w w1 := (Below.refl _ _).grown hg1 (Nat.le_refl _) (fun b hb => by cases hb)
  obtain ⟨xs, hown⟩ : ∃ xs : List Value, w1.ownsRow w.heap.size 35 6 (.slice (some ⟨w.heap.size, 0, none⟩) kids.length kids.length) kids.length xs := ⟨_, hown1⟩
  have Hown := Lib.hid hown
  have Hb1 := Lib.hid hb1
  clear hown1 hown hb1 hg1
  go_wp2_with fail
  go_loopw [4] (fun i wr => ∃ (k : Nat) (xs : List Value) (F : List Nat), k ≤ kids.length ∧ i = .int .i64 k ∧ wr.ownsRow w.heap.size 35 6 (.slice (some ⟨w.heap.size, 0, none⟩) kids.length kids.length) kids.length xs ∧
    OwnS wr w.heap.size (f + 2) (xs.take (k * 6)) (rows (kids.take k)) F ∧ F.Nodup ∧ (∀ x ∈ F, x ≠ w.heap.size) ∧ Below w.heap.size w wr) (fun i _ => kids.length - (intOf i).toNat)
  case atStart => exact ⟨0, xs, [], Nat.zero_le _, rfl, Hown.out, by simpa [rows] using OwnS.nil, List.nodup_nil, (fun x hx => by cases hx), Hb1.out⟩
  case round =>
    clear Hown Hb1 xs
    obtain ⟨k, xs, F, hk, rfl, hown, ho, hnd, hne, hbel⟩ := hrel
    by_cases hlt : k < kids.length
    · obtain ⟨g, o, rfl, hg, hkid⟩ := (Hk.out.below hbel) (by omega)
      obtain ⟨u0, u1, u2, u3, u4, u5, ⟨q0, q1, q2, q3, q4, q5⟩, hls⟩ := hkid k kids[k] (List.getElem?_eq_getElem hlt)
      have hwk : weight kids[k] ≤ 1048576 := by
        have h1 : weights kids = weights (kids.take (k + 1)) + weights (kids.drop (k + 1)) := by rw [← weights_append, List.take_append_drop]
        rw [List.take_succ_eq_append_getElem hlt, weights_append] at h1
        have h2 : weights [kids[k]] = weight kids[k] := by simp [weights]
        omega
      have hr1 : rows (kids.take (k + 1)) = rows (kids.take k) ++ row kids[k] := by
        rw [List.take_succ_eq_append_getElem hlt, rows_append]
        simp [rows]
      have Hr1 := Lib.hid hr1
      have HC := Lib.hid (HE.out kids[k] _ wr hls hwk)
      have Hown := Lib.hid hown
      have Ho := Lib.hid ho
      have Hbel := Lib.hid hbel
      have hlb : w.heap.size < wr.heap.size := (hown.lt w.heap.size rfl).2
      have Hlb := Lib.hid hlb
      clear hkid hls hg hwk hr1 hown ho hbel hlb
      generalize kids[k] = x at HC Hr1
      go_wp2_with fail
      refine HC.out.mono ?_
      rintro e w2 ⟨⟨us, G, rfl, hoG, hnG⟩, hb2⟩
      have hlen : us.length = 6 := by rw [hoG.1, row_length]
      have hown2 := own_below' Hown.out hb2
      have ho2 := Ho.out.below hb2
      have hthere := own_there hown2 (k * 6) us.toArray.size (by simp [hlen]; omega)
      have hone := hoG.one
      have hsize : (Tryd.prog.info? 35).map (·.size) = some us.toArray.size := by rw [List.size_toArray, hlen]; exact tree_size
      have Hfill := Lib.hid (own_fill hown2 hlt hlen ho2 hnd hne (hoG.lower (Nat.le_trans Hbel.out.size (Nat.le_refl _))) hnG (fun y hy hyG => by have h1 := (Ho.out.range y hy).2; have h2 := (hoG.range y hyG).1; omega) (fun y hy => by have h1 := (hoG.range y hy).1; have h2 := Hlb.out; omega) rfl)
      have Hbel2 := Lib.hid (Hbel.out.trans (hb2.mono Hbel.out.size))
      clear HC hoG hnG hb2 hown2 ho2 Ho hnd hne Hown Hbel q0 q1 q2 q3 q4 q5
      go_wp2_with (first | (refine Go.wpList_store_mid rfl 35 _ _ rfl w.heap.size (k * 6) us.toArray rfl rfl hthere hsize hone ?_) | fail)
      have hf := Hfill.out
      rw [← Hr1.out] at hf
      have hbel3 : Below w.heap.size w (w2.setCells w.heap.size (k * 6) us) := Hbel2.out.grown hf.2.2.2.2 Hbel2.out.size (fun b hb => by injection hb with hb; omega)
      have HF := Lib.hid hf
      have Hbel3 := Lib.hid hbel3
      clear hf hbel3 Hfill hthere hone hsize
      go_wp2_with fail
      go_roundw
      case rel => exact ⟨k + 1, _, _, by omega, by go_num, HF.out.1, HF.out.2.1, HF.out.2.2.1, HF.out.2.2.2.1, Hbel3.out⟩
      case measure => simp [intOf]; omega
    · obtain rfl : k = kids.length := by omega
      rw [List.take_of_length_le (Nat.le_refl _)] at ho
      have HR := Lib.hid (own_filled hown (by rw [rows_length]) ho hnd hne)
      have Hbel := Lib.hid hbel
      clear hown ho hbel
      go_wp2_with fail
      go_ret
      exact ⟨_, _, rfl, HR.out, Hbel.out⟩
theorem to_kids : ∀ f, ToKids f
  | 0 => to_kids_step (fun t vs w h => by
      obtain ⟨k, fl, n, s, ks, kids⟩ := t
      obtain ⟨_, _, _, _, _, _, _, _, _, _, _, _, _, _, f', hf, _⟩ := open_tree h
      omega)
  | f + 1 => to_kids_step (fun t vs w h hw => to_of (to_kids f) t vs w h hw)
/-- toTree of a tree that lies in memory. -/
theorem to_tree {f : Nat} (t : T) (vs : List Value) (w : World) (h : LiesS w f vs (row t)) (hw : weight t ≤ 1048576) :
    Calls Tryd.prog 14 #[.agg vs.toArray] w fun e w' => TreeOut w.heap.size (f + 3) t e w' ∧ Below w.heap.size w w' :=
  to_of (to_kids f) t vs w (h.deeper (Nat.le_succ f)) hw
end Go.Proofs.YtangdmjdjiddcaaDoor.tree
namespace Go.Proofs.YtangdmjdjiddcaaDoor.tree
open Go.ChangeShapes Go.WideShapes Go.ChangeAt Go.RowKit
set_option linter.unusedVariables false

/-- At a depth. -/
def EqKids (f : Nat) : Prop := ∀ (A1 A2 : Option Addr) (c1 c2 : Nat) (kids : List T) (w : World), kids.length ≤ c1 → c1 ≤ maxLen → kids.length ≤ c2 → c2 ≤ maxLen → KidsAt w f A1 kids → KidsAt w f A2 kids →
  Calls Tryd.prog 26 #[.slice A1 kids.length c1, .slice A2 kids.length c2] w fun e w' => e = .returned (.bool true) ∧ Below w.heap.size w w'
theorem eq_of {f : Nat} (hP : EqKids f) (t : T) (vs us : List Value) (w : World) (h1 : LiesS w (f + 1) vs (row t)) (h2 : LiesS w (f + 1) us (row t)) :
    Calls Tryd.prog 18 #[.agg vs.toArray, .agg us.toArray] w fun e w' => e = .returned (.bool true) ∧ Below w.heap.size w w' := by
  obtain ⟨k, fl, n, s, ks, kids⟩ := t
  obtain ⟨A1, c1, A2, c2, rfl, _, _, hs, hc1, hc2, hr, hks, hc3, hc4, f', hf, hk⟩ := open_tree h1
  obtain rfl : f = f' := by omega
  obtain ⟨B1, d1, B2, d2, rfl, _, _, _, hd1, hd2, hr', hks', hd3, hd4, f', hf, hk'⟩ := open_tree h2
  obtain rfl : f = f' := by omega
  clear h1 h2 hf
  have HB1 := Lib.hid (Box.new 35 w [.int .i64 k, .bool fl, .int .i64 n, .string s, .slice A1 ks.length c1, .slice A2 kids.length c2])
  have HB2 := Lib.hid (HB1.out.below ((Below.refl _ _).alloc (Nat.le_refl _) (.cells #[.int .i64 k, .bool fl, .int .i64 n, .string s, .slice B1 ks.length d1, .slice B2 kids.length d2] 35)))
  have HB3 := Lib.hid (Box.new 35 (w.alloc (.cells #[.int .i64 k, .bool fl, .int .i64 n, .string s, .slice A1 ks.length c1, .slice A2 kids.length c2] 35)) [.int .i64 k, .bool fl, .int .i64 n, .string s, .slice B1 ks.length d1, .slice B2 kids.length d2])
  have hsz : (w.alloc (.cells #[.int .i64 k, .bool fl, .int .i64 n, .string s, .slice A1 ks.length c1, .slice A2 kids.length c2] 35)).heap.size = w.heap.size + 1 := by simp
  have HE := Lib.hid (fun w1 (hb : Below w.heap.size w w1) => lawStr.eq_yes A1 B1 ks.length c1 d1 ks w1 (by omega) rfl (hr.below hb) (hr'.below hb))
  have HK := Lib.hid (fun w1 (hb : Below w.heap.size w w1) => hP A2 B2 c2 d2 kids w1 hc3 hc4 hd3 hd4 (hk.below hb) (hk'.below hb))
  have p0 := HB2.out.cell (j := 0) rfl
  have p1 := HB2.out.cell (j := 1) rfl
  have p2 := HB2.out.cell (j := 2) rfl
  have p3 := HB2.out.cell (j := 3) rfl
  have p4 := HB2.out.cell (j := 4) rfl
  have p5 := HB2.out.cell (j := 5) rfl
  have q0 := HB3.out.cell (j := 0) rfl
  have q1 := HB3.out.cell (j := 1) rfl
  have q2 := HB3.out.cell (j := 2) rfl
  have q3 := HB3.out.cell (j := 3) rfl
  have q4 := HB3.out.cell (j := 4) rfl
  have q5 := HB3.out.cell (j := 5) rfl
  rw [hsz] at q0 q1 q2 q3 q4 q5
  have hq := HB3.out.2
  have hbb := HB2.out.1
  have Hp := Lib.hid HB2.out.2
  rw [hsz] at hq
  have Hq := Lib.hid hq
  clear hr hr' hks hks' hk hk' hP hc1 hc2 hc3 hc4 hd1 hd2 hd3 hd4 HB1 HB3 hq
  have Hbb := Lib.hid hbb
  clear hbb HB2
  go_enter Tryd.func18, Tryd.ntmps18
  go_wp2_with fail
  refine (HE.out _ Hbb.out).mono ?_
  rintro e w1 ⟨rfl, q, rfl⟩
  go_wp2_with fail
  refine (HK.out _ (below_drewN Hbb.out q)).mono ?_
  rintro e w1 ⟨rfl, hb1⟩
  have Hb1 := Lib.hid ((below_drewN Hbb.out q).trans (hb1.mono (below_drewN Hbb.out q).size))
  clear hb1
  go_wp2_with fail
  go_ret
  exact ⟨rfl, Hb1.out⟩
theorem eq_kids_step {f : Nat} (hE : ∀ (t : T) (vs us : List Value) (w : World), LiesS w f vs (row t) → LiesS w f us (row t) →
    Calls Tryd.prog 18 #[.agg vs.toArray, .agg us.toArray] w fun e w' => e = .returned (.bool true) ∧ Below w.heap.size w w') : EqKids f := by
  intro A1 A2 c1 c2 kids w hc1 hm1 hc2 hm2 hk1 hk2
  unfold maxLen at hm1 hm2
  have Hk1 := Lib.hid hk1
  have Hk2 := Lib.hid hk2
  have HE := Lib.hid hE
  clear hk1 hk2 hE
  go_enter Tryd.func26, Tryd.ntmps26
  go_wp2_with fail
  go_loopw [5] (fun i wr => ∃ (j : Nat), j ≤ kids.length ∧ i = .int .i64 j ∧ Below w.heap.size w wr) (fun i _ => kids.length - (intOf i).toNat)
  case atStart => exact ⟨0, Nat.zero_le _, rfl, Below.refl _ _⟩
  case round =>
    obtain ⟨j, hj, rfl, hbel⟩ := hrel
    by_cases hlt : j < kids.length
    · obtain ⟨g1, o1, rfl, hg1, hkid1⟩ := (Hk1.out.below hbel) (by omega)
      obtain ⟨g2, o2, rfl, hg2, hkid2⟩ := (Hk2.out.below hbel) (by omega)
      obtain ⟨u0, u1, u2, u3, u4, u5, ⟨q0, q1, q2, q3, q4, q5⟩, hls1⟩ := hkid1 j kids[j] (List.getElem?_eq_getElem hlt)
      obtain ⟨v0, v1, v2, v3, v4, v5, ⟨r0, r1, r2, r3, r4, r5⟩, hls2⟩ := hkid2 j kids[j] (List.getElem?_eq_getElem hlt)
      have HC := Lib.hid (fun w1 (hb : Below wr.heap.size wr w1) => HE.out kids[j] _ _ w1 (hls1.below hb) (hls2.below hb))
      have Hbel := Lib.hid hbel
      clear hkid1 hkid2 hls1 hls2 hbel hg1 hg2
      go_wp2_with fail
      go_region_law (go_simp; go_at_call 18; refine (HC.out _ (Below.refl _ _).drew).mono ?_; rintro e w1 ⟨rfl, hb1⟩)
      all_goals
        have hbel1 := Hbel.out.trans (((Below.refl _ _).drew.trans (hb1.mono (Nat.le_refl _))).mono Hbel.out.size)
        clear hb1 q0 q1 q2 q3 q4 q5 r0 r1 r2 r3 r4 r5
        go_wp2_with fail
        go_roundw
        case rel => exact ⟨j + 1, by omega, by go_num, hbel1⟩
        case measure => simp [intOf]; omega
    · obtain rfl : j = kids.length := by omega
      have Hbel := Lib.hid hbel
      clear hbel
      go_wp2_with fail
      go_ret
      exact ⟨rfl, Hbel.out⟩
theorem eq_kids : ∀ f, EqKids f
  | 0 => eq_kids_step (fun t vs us w h => by
      obtain ⟨k, fl, n, s, ks, kids⟩ := t
      obtain ⟨_, _, _, _, _, _, _, _, _, _, _, _, _, _, f', hf, _⟩ := open_tree h
      omega)
  | f + 1 => eq_kids_step (fun t vs us w h1 h2 => eq_of (eq_kids f) t vs us w h1 h2)
/-- eqTree on two equal trees in memory. -/
theorem eq_tree {f : Nat} (t : T) (vs us : List Value) (w : World) (h1 : LiesS w f vs (row t)) (h2 : LiesS w f us (row t)) :
    Calls Tryd.prog 18 #[.agg vs.toArray, .agg us.toArray] w fun e w' => e = .returned (.bool true) ∧ Below w.heap.size w w' :=
  eq_of (eq_kids f) t vs us w (h1.deeper (Nat.le_succ f)) (h2.deeper (Nat.le_succ f))
end Go.Proofs.YtangdmjdjiddcaaDoor.tree
namespace Go.Proofs.YtangdmjdjiddcaaDoor
open Go Go.RowKit
set_option linter.unusedVariables false

/-- append onto a slice of the call's own as one step of a region that draws its order. -/
theorem step_append_at {P : Program} {ops : Array Oper} {o : Oper} {a : Act} {w : World} {K : Act → World → Prop} {Q : Exit → Act → World → Prop} {E : Prop}
    (hg : o.guard = none) (s x : Operand) (t : TypeId) (hop : o.op = Op.call { callee := Callee.builtin Builtin.append, args := #[s, x], argTypes := #[t, t] })
    (B : Nat) (e : TypeId) (i : TypeInfo) (z : Value) (size bytes : Nat) (h1 : P.underlying t = some (.slice e)) (h2 : P.info? e = some i) (h3 : i.zero = some z) (h4 : i.size = size) (h5 : i.bytes = bytes) (h6 : z.cells.size = size) (h7 : 0 < size)
    (v : Value) (n : Nat) (xs : List Value) (hs : a.eval s = v) (hown : w.ownsRow B e size v n xs)
    (ad : Addr) (m c : Nat) (news : List Value) (hx : a.eval x = .slice (some ad) m c) (hn : news.length = m * size) (hc : ∀ j u, news[j]? = some u → w.cell? (ad.add j) = some u) (h1c : ∀ u ∈ news, u.oneCell' = true)
    (b1 : n + m ≤ maxLen) (b2 : (n + m) * bytes ≤ 140737488355328) (b3 : B ≤ w.heap.size)
    (hK : ∀ v' w', w'.ownsRow B e size v' (n + m) (xs ++ news) → w.grownBy w' v.ownBlock → (v'.ownBlock = v.ownBlock ∨ v'.ownBlock = some w.heap.size) → K (a.put o.dst v') w') :
    if Region.wanted o (yielded ops a.tmps) = true then Oper.wp P o a w K Q else E := by
  have hw : Region.wanted o (yielded ops a.tmps) = true := by simp [Region.wanted, hg]
  rw [if_pos hw]
  obtain ⟨v', w', hrun, r1, r2, _, r3⟩ := run_append_own_at (P := P) w B t o.type e i z size bytes h1 h2 h3 h4 h5 h6 h7 v n xs hown ad m c news hn hc h1c b1 b2 b3
  unfold Oper.wp
  simp [execOp, hop, resolve, invoke, builtin, hs, hx, hrun, Result.andThen]
  exact hK v' w' r1 r2 r3
/-- append(v, x...) of a slice x that reads, nil or not, one cell an element. -/
theorem wpList_append_rd {P : Program} {w : World} {ops : Array Oper} {rest : List Oper} {o : Oper} {a : Act} {Q : Exit → Act → World → Prop} (hgd : o.guard = none) (s x : Operand) (t : TypeId)
    (ho : o.op = .call { callee := .builtin .append, args := #[s, x], argTypes := #[t, t] })
    (base : Nat) (e : TypeId) (i : TypeInfo) (z : Value) (bytes : Nat) (ht : P.underlying t = some (.slice e)) (hi : P.info? e = some i) (hz : i.zero = some z)
    (hsize : i.size = 1) (hby : i.bytes = bytes) (hzs : z.cells.size = 1)
    (v : Value) (n : Nat) (xs : List Value) (hs : a.eval s = v) (hown : w.ownsRow base e 1 v n xs)
    (A : Option Addr) (m c : Nat) (news : List Value) (hx : a.eval x = .slice A m c) (hr : Rd w A m news) (h1 : ∀ u ∈ news, u.oneCell' = true)
    (h63 : n + m ≤ maxLen) (hbytes : (n + m) * bytes ≤ 140737488355328) (hbase : base ≤ w.heap.size)
    (h : ∀ v' w', w'.ownsRow base e 1 v' (n + m) (xs ++ news) → w.grownBy w' v.ownBlock → (v'.ownBlock = v.ownBlock ∨ v'.ownBlock = some w.heap.size) → wpList P ops Q rest (a.put o.dst v') w') :
    wpList P ops Q (o :: rest) a w := by
  refine wpList_plain hgd fun K hK => ?_
  have hrun : ∃ v' w', (Builtin.append_ #[t, t] o.type #[v, .slice A m c]).run P w = .ok v' w' ∧ w'.ownsRow base e 1 v' (n + m) (xs ++ news) ∧ w.grownBy w' v.ownBlock ∧ (v'.ownBlock = v.ownBlock ∨ v'.ownBlock = some w.heap.size) := by
    cases A with
    | none =>
      have hm : m = 0 := by
        rcases Nat.eq_zero_or_pos m with h | h
        · exact h
        · obtain ⟨g, o, hg, _⟩ := hr.2 h
          cases hg
      subst hm
      have hn : news = [] := List.eq_nil_of_length_eq_zero hr.1
      subst hn
      refine ⟨v, w, ?_, by simpa using hown, World.grownBy.refl _ _, .inl rfl⟩
      rcases hown.2 with ⟨rfl, rfl⟩ | ⟨g, cap, cur, rfl, _, _, hnc, _⟩
      · simp [Builtin.append_, run_underlying ht, sizeOf, typeInfo, hi, Builtin.lenOf, Builtin.firstCells]
      · simp [Builtin.append_, run_underlying ht, sizeOf, typeInfo, hi, Builtin.lenOf, Builtin.firstCells, hnc, storeCells]
    | some ad =>
      obtain ⟨v', w', r0, r1, r2, _, r3⟩ := run_append_own_at (P := P) w base t o.type e i z 1 bytes ht hi hz hsize hby hzs (by decide) v n xs hown ad m c news (by rw [hr.1]; omega) (fun j u hu => by
        have hj : j < m := by have := (List.getElem?_eq_some_iff.1 hu).1; have := hr.1; omega
        obtain ⟨g, o', hg, _, hc⟩ := hr.2 (by omega)
        injection hg with hg
        subst hg
        rw [Addr.add_lit]
        exact hc j hj u hu) h1 h63 hbytes hbase
      exact ⟨v', w', r0, r1, r2, r3⟩
  obtain ⟨v', w', hr', h2, h3, h5⟩ := hrun
  unfold Oper.wp execOp
  simp only [ho, resolve, invoke, builtin, Sem.run_bind, Sem.run_pure, Result.andThen_ok, List.map_toArray, List.map_cons, List.map_nil, hs, hx, hr']
  exact hK _ _ (h v' w' h2 h3 h5)
theorem strs_one (ks : List ByteArray) : ∀ u ∈ scells ks, u.oneCell' = true := by
  intro u hu
  obtain ⟨s, _, rfl⟩ := List.mem_map.1 hu
  rfl
theorem own_is_slice {w : World} {B : Nat} {e : TypeId} {size : Nat} {v : Value} {n : Nat} {xs : List Value} (h : w.ownsRow B e size v n xs) : ∃ A c, v = .slice A n c := by
  rcases h.2 with ⟨rfl, rfl⟩ | ⟨g, cap, cur, rfl, _⟩
  · exact ⟨none, 0, rfl⟩
  · exact ⟨_, _, rfl⟩
theorem OwnS.ones {w : World} {B f : Nat} {vs : List Value} {ds : List C} {F : List Nat} (h : OwnS w B f vs ds F) : ∀ u ∈ vs, u.oneCell' = true := by
  obtain ⟨h1, Fs, h2, rfl, h3⟩ := h
  intro v hv
  obtain ⟨m, hm, rfl⟩ := List.getElem_of_mem hv
  exact (h3 m _ _ _ (List.getElem?_eq_getElem hm) (List.getElem?_eq_getElem (by omega)) (List.getElem?_eq_getElem (by omega))).one
end Go.Proofs.YtangdmjdjiddcaaDoor
namespace Go.Proofs.YtangdmjdjiddcaaDoor.tree
open Go.ChangeShapes Go.WideShapes Go.ChangeAt Go.RowKit
set_option linter.unusedVariables false

theorem tree_size' : (Tryd.prog.info? 35).map (·.size) = some 6 := by kernel_rfl
theorem TrydinfoTree' : (Tryd.prog.info? 35).map (fun i => (i.zero, i.size, i.bytes)) = some (some (.agg #[.int .i64 0, .bool false, .int .i64 0, .string ⟨#[]⟩, .slice none 0 0, .slice none 0 0]), 6, 88) := by kernel_rfl
theorem TrydinfoStr' : (Tryd.prog.info? 9).map (fun i => (i.zero, i.size, i.bytes)) = some (some (.string ⟨#[]⟩), 1, 16) := by kernel_rfl

def TreeOut' (B f : Nat) (t : T) (e : Ending) (w' : World) : Prop := ∃ us F, e = .returned (.agg us.toArray) ∧ OwnS w' B f us (row t) F ∧ F.Nodup
theorem wf_small {k : Int} (h0 : 0 ≤ k) (h1 : k ≤ 10) : (Lit.int .i64 k).wf = true := by
  have e1 : IntKind.i64.min = -9223372036854775808 := rfl
  have e2 : IntKind.i64.max = 9223372036854775807 := rfl
  simp [Lit.wf, e1, e2]
  omega
theorem own_leaf {w : World} {B : Nat} {k : Int} {fl : Bool} {n : Int} {s : ByteArray} (f : Nat) (hk : (Lit.int .i64 k).wf = true) (hn : (Lit.int .i64 n).wf = true) (hs : s.size ≤ maxLen) :
    OwnS w B (f + 1) [.int .i64 k, .bool fl, .int .i64 n, .string s, .slice none 0 0, .slice none 0 0] (row (.mk k fl n s [] [])) [] := by
  obtain ⟨F, ho, hnd, hF⟩ := own_tree (fl := fl) (ks := []) (kids := []) hk hn hs (own_nil w B f 1) (own_nil w B f 6) List.nodup_nil List.nodup_nil (fun x hx => by cases hx)
  have : F = [] := by
    cases F with
    | nil => rfl
    | cons a r => rcases hF a List.mem_cons_self with h | h <;> cases h
  subst this
  exact ho
theorem ret_tree {fn : Func} {c : Tmp} {tmps : Array Value} {w : World} {g : Nat} {vs : Array Value} (h : fn.results = #[.cell c 35])
    (hc : tmps.getD c undef = .pointer (some ⟨g, 0, none⟩)) (hsz : vs.size = 6) (hg : w.heap[g]? = some (.cells vs 35 (0, 0))) : (results fn tmps).run Tryd.prog w = .ok (.agg vs) w :=
  results_cell_row h _ _ g _ vs (0, 0) _ hc hg Tryd.underlying35 rfl (by rw [hsz]; exact tree_size')
end Go.Proofs.YtangdmjdjiddcaaDoor.tree
namespace Go.Proofs.YtangdmjdjiddcaaDoor
open Go Go.RowKit

def RowE (e : TypeId) (w : World) (g : Nat) (us : List Value) : Prop := w.heap[g]? = some (.cells us.toArray e (0, 0))
theorem RowE.below {e : TypeId} {w a : World} {g : Nat} {us : List Value} (h : RowE e w g us) (k : Below w.heap.size w a) : RowE e a g us := heap_kept k (heap_lt h) h
theorem RowE.cell {e : TypeId} {w : World} {g : Nat} {us : List Value} (h : RowE e w g us) (j : Nat) (u : Value) (hj : us[j]? = some u) : w.cell? ⟨g, j, none⟩ = some u := by
  rw [cell_of_row w _ j _ _ _ h]
  simpa using hj
theorem RowE.new (e : TypeId) (w : World) (us : List Value) : RowE e (w.alloc (.cells us.toArray e)) w.heap.size us := heap_alloc_new w _
theorem RowE.alloc {e e2 : TypeId} {w : World} {g : Nat} {us vs : List Value} (h : RowE e w g us) : RowE e (w.alloc (.cells vs.toArray e2)) g us := h.below ((Below.refl _ _).alloc (Nat.le_refl _) _)
theorem RowE.frozen {e : TypeId} {w : World} {g : Nat} {us : List Value} (h : RowE e w g us) (j : Nat) : w.frozen? ⟨g, j, none⟩ = false := by
  unfold RowE at h
  simp [World.frozen?, h]
theorem RowE.put {e : TypeId} {w : World} {g : Nat} {us : List Value} (h : RowE e w g us) (j : Nat) (v : Value) : RowE e (w.setCell ⟨g, j, none⟩ v) g (us.set j v) := by
  have := heap_setCell_same w g j us.toArray e v h
  unfold RowE
  rw [this]
  simp
theorem RowE.other {e : TypeId} {w : World} {g x j : Nat} {v : Value} {us : List Value} (h : RowE e w x us) (hx : x ≠ g) : RowE e (w.setCell ⟨g, j, none⟩ v) x us :=
  (Below.heap_setCell w ⟨g, j, none⟩ v x hx).trans h
theorem three_of {us : List Value} (h : us.length = 3) : ∃ a b c, us = [a, b, c] := by
  match us, h with
  | [a, b, c], _ => exact ⟨a, b, c, rfl⟩
theorem four_of {us : List Value} (h : us.length = 4) : ∃ a b c d, us = [a, b, c, d] := by
  match us, h with
  | [a, b, c, d], _ => exact ⟨a, b, c, d, rfl⟩
end Go.Proofs.YtangdmjdjiddcaaDoor
namespace Go.Proofs.YtangdmjdjiddcaaDoor.tree
open Go Go.RowKit
theorem same_yes {a b : ByteArray} (h : a = b) : (a.toList == b.toList) = true := by subst h; simp
theorem same_no {a b : ByteArray} (h : ¬ a = b) : (a.toList == b.toList) = false := by
  rw [beq_eq_false_iff_ne, ByteArray.toList_eq, ByteArray.toList_eq]
  exact fun e => h (by apply ByteArray.ext; exact Array.ext' e)
theorem same_yes' {a b : ByteArray} (h : a = b) : (b.toList == a.toList) = true := by rw [h]; simp
theorem same_no' {a b : ByteArray} (h : ¬ a = b) : (b.toList == a.toList) = false := by
  have := same_no h
  simp only [beq_eq_false_iff_ne] at this ⊢
  exact fun e => this e.symm
end Go.Proofs.YtangdmjdjiddcaaDoor.tree
namespace Go.Proofs.YtangdmjdjiddcaaDoor.field
open Go.ChangeShapes Go.WideShapes Go.ChangeAt Go.RowKit
set_option linter.unusedVariables false

theorem spec_key (p k : ByteArray) (w : World) (hp : p.size ≤ 1048576) (hk : k.size ≤ 1048576) :
    Calls Tryd.prog 38 #[.string p, .string k] w fun e w' => e = .returned (.string (pathKey p k)) ∧ w = w' := by
  by_cases h : p.size = 0
  · have he : (p.toList == []) = true := nil_yes h
    rw [key_none k h]
    clear h hp hk
    go_enter Tryd.func38, Tryd.ntmps38
    go_wp2_with fail
    go_ret
    exact ⟨rfl, rfl⟩
  have he : (p.toList == []) = false := nil_no h
  have h1 : ¬ 9223372036854775807 < p.size + 1 := by omega
  have h2 : ¬ 9223372036854775807 < p.size + 1 + k.size := by omega
  rw [key_some k h]
  clear h hp hk
  go_enter Tryd.func38, Tryd.ntmps38
  go_wp2_with fail
  go_ret
  exact ⟨rfl, rfl⟩
end Go.Proofs.YtangdmjdjiddcaaDoor.field
