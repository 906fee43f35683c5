/- The law's own copy of a tree: toTreeS, toTree. -/
import Derived.Test.YtmldigfghiofkaaTreeL
import Derived.Test.YtmldigfghiofkaaCellW
import Derived.Test.YtmldigfghiofkaaLawStrTo
import Derived.Deep.WholeRow
namespace Go.Proofs.Ytmldigfghiofkaa.tree
open Go.ChangeShapes Go.WideShapes Go.ChangeAt Go.RowKit
set_option linter.unusedVariables false

theorem tree_size : (Try.prog.info? 30).map (·.size) = some 6 := by kernel_rfl
theorem tree_one (k : Int) (fl : Bool) (n : Int) (s : ByteArray) (A1 A2 : Option Addr) (n1 c1 n2 c2 : Nat) : (#[.int .i64 k, .bool fl, .int .i64 n, .string s, .slice A1 n1 c1, .slice A2 n2 c2] : Array Value).all (·.oneCell') = true := by simp [Value.oneCell']
/-- At a depth. -/
def ToKids (f : Nat) : Prop := ∀ (A : Option Addr) (c : Nat) (kids : List T) (w : World), kids.length ≤ c → c ≤ maxLen → KidsAt w f A kids → kids.length + weights kids ≤ 1048576 →
  Calls Try.prog 32 #[.slice A kids.length c] w fun e w' => ∃ A' c', e = .returned (.slice A' kids.length c') ∧ OwnRow w' w.heap.size (f + 2) 30 6 (.slice A' kids.length c') kids.length (rows kids) ∧ Below w.heap.size w w'
def TreeOut (B f : Nat) (t : T) (e : Ending) (w' : World) : Prop := ∃ us F, e = .returned (.agg us.toArray) ∧ OwnS w' B f us (row t) F ∧ F.Nodup

theorem to_of {f : Nat} (hP : ToKids f) (t : T) (vs : List Value) (w : World) (h : LiesS w (f + 1) vs (row t)) (hw : weight t ≤ 1048576) :
    Calls Try.prog 13 #[.agg vs.toArray] w fun e w' => TreeOut w.heap.size (f + 3) t e w' ∧ Below w.heap.size w w' := by
  obtain ⟨k, fl, n, s, ks, kids⟩ := t
  obtain ⟨A1, c1, A2, c2, rfl, wk, wn, hs, hc1, hc2, hr, hks, hc3, hc4, f', hf, hk⟩ := open_tree h
  obtain rfl : f = f' := by omega
  clear h hf
  rw [weight] at hw
  obtain ⟨w1, hw1⟩ : ∃ w1, w1 = ((w.alloc (.cells #[.int .i64 k, .bool fl, .int .i64 n, .string s, .slice A1 ks.length c1, .slice A2 kids.length c2] 25)).alloc (.cells #[.int .i64 0, .bool false, .int .i64 0, .string ⟨#[]⟩, .slice none 0 0, .slice none 0 0] 30)).alloc (.cells #[.int .i64 k, .bool fl, .int .i64 n, .string s, .slice none 0 0, .slice none 0 0] 30) := ⟨_, rfl⟩
  have hsz : w1.heap.size = w.heap.size + 3 := by subst hw1; simp
  have hb1 : Below w.heap.size w w1 := by subst hw1; exact (((Below.refl _ _).alloc (Nat.le_refl _) _).alloc (by simp) _).alloc (by simp; omega) _
  have h10 : w1.heap[w.heap.size]? = some (.cells #[.int .i64 k, .bool fl, .int .i64 n, .string s, .slice A1 ks.length c1, .slice A2 kids.length c2] 25 (0, 0)) := by
    subst hw1
    rw [Below.heap_alloc _ _ _ (by simp; omega), Below.heap_alloc _ _ _ (by simp)]
    exact heap_alloc_new w _
  have h11 : w1.heap[w.heap.size + 1]? = some (.cells #[.int .i64 0, .bool false, .int .i64 0, .string ⟨#[]⟩, .slice none 0 0, .slice none 0 0] 30 (0, 0)) := by
    subst hw1
    rw [Below.heap_alloc _ _ _ (by simp)]
    have h := heap_alloc_new (w.alloc (.cells #[.int .i64 k, .bool fl, .int .i64 n, .string s, .slice A1 ks.length c1, .slice A2 kids.length c2] 25)) (.cells #[.int .i64 0, .bool false, .int .i64 0, .string ⟨#[]⟩, .slice none 0 0, .slice none 0 0] 30)
    simpa using h
  have h12 : w1.heap[w.heap.size + 2]? = some (.cells #[.int .i64 k, .bool fl, .int .i64 n, .string s, .slice none 0 0, .slice none 0 0] 30 (0, 0)) := by
    subst hw1
    have h := heap_alloc_new ((w.alloc (.cells #[.int .i64 k, .bool fl, .int .i64 n, .string s, .slice A1 ks.length c1, .slice A2 kids.length c2] 25)).alloc (.cells #[.int .i64 0, .bool false, .int .i64 0, .string ⟨#[]⟩, .slice none 0 0, .slice none 0 0] 30)) (.cells #[.int .i64 k, .bool fl, .int .i64 n, .string s, .slice none 0 0, .slice none 0 0] 30)
    simpa using h
  have HS := Lib.hid (lawStr.to_any A1 ks.length c1 ks w1 (by omega) rfl (hr.below hb1))
  have HP := Lib.hid (fun w2 (hb : Below w.heap.size w w2) => hP A2 c2 kids w2 hc3 hc4 (hk.below hb) (by omega))
  have Hw := Lib.hid (show (Lit.int .i64 k).wf = true ∧ (Lit.int .i64 n).wf = true ∧ s.size ≤ maxLen ∧ ∀ x ∈ ks, x.size ≤ maxLen from ⟨wk, wn, hs, hks⟩)
  have H10 := Lib.hid h10
  have H11 := Lib.hid h11
  have H12 := Lib.hid h12
  have Hb1 := Lib.hid hb1
  have Hsz := Lib.hid hsz
  have Hw1 := Lib.hid hw1
  clear hr hks hk hP hc1 hc2 hc3 hc4 hw wk wn hs h10 h11 h12 hb1 hsz hw1
  go_enter Try.func13, Try.ntmps13
  go_wp2_with fail
  rw [← Hw1.out]
  refine HS.out.mono ?_
  rintro e w2 ⟨g1, rfl, hown1, hb2⟩
  have Hown1 := Lib.hid (ownRow_strs (f := f + 1) hown1 Hw.out.2.2.2)
  have h20 := heap_kept hb2 (by rw [Hsz.out]; omega) H10.out
  have h21 := heap_kept hb2 (by rw [Hsz.out]; omega) H11.out
  have h22 := heap_kept hb2 (by rw [Hsz.out]; omega) H12.out
  have Hb2 := Lib.hid (Hb1.out.trans (hb2.mono Hb1.out.size))
  have p4 : w2.cell? ⟨w.heap.size + 2, 4, none⟩ = some (.slice none 0 0) := by rw [cell_of_row w2 _ 4 _ _ _ h22]; rfl
  have f4 := frozen_of_row w2 _ 4 _ _ h22
  have h30 : (w2.setCell ⟨w.heap.size + 2, 4, none⟩ (.slice (some ⟨g1, 0, none⟩) ks.length ks.length)).heap[w.heap.size]? = _ := (Below.heap_setCell _ _ _ _ (by show w.heap.size ≠ w.heap.size + 2; omega)).trans h20
  have h31 : (w2.setCell ⟨w.heap.size + 2, 4, none⟩ (.slice (some ⟨g1, 0, none⟩) ks.length ks.length)).heap[w.heap.size + 1]? = _ := (Below.heap_setCell _ _ _ _ (by show w.heap.size + 1 ≠ w.heap.size + 2; omega)).trans h21
  have h32 : (w2.setCell ⟨w.heap.size + 2, 4, none⟩ (.slice (some ⟨g1, 0, none⟩) ks.length ks.length)).heap[w.heap.size + 2]? = some (.cells #[.int .i64 k, .bool fl, .int .i64 n, .string s, .slice (some ⟨g1, 0, none⟩) ks.length ks.length, .slice none 0 0] 30 (0, 0)) := heap_setCell_same _ _ _ _ _ _ h22
  have p5 : (w2.setCell ⟨w.heap.size + 2, 4, none⟩ (.slice (some ⟨g1, 0, none⟩) ks.length ks.length)).cell? ⟨w.heap.size, 5, none⟩ = some (.slice A2 kids.length c2) := by rw [cell_of_row _ _ 5 _ _ _ h30]; rfl
  have hb3 : Below w.heap.size w (w2.setCell ⟨w.heap.size + 2, 4, none⟩ (.slice (some ⟨g1, 0, none⟩) ks.length ks.length)) := Hb2.out.setCell (by show w.heap.size ≤ w.heap.size + 2; omega) _
  have hor3 : OwnRow (w2.setCell ⟨w.heap.size + 2, 4, none⟩ (.slice (some ⟨g1, 0, none⟩) ks.length ks.length)) w1.heap.size (f + 2) 9 1 (.slice (some ⟨g1, 0, none⟩) ks.length ks.length) ks.length (ks.map C.str) :=
    own_row_setCell Hown1.out (by show w.heap.size + 2 < w1.heap.size; rw [Hsz.out]; omega)
  have HP3 := Lib.hid (HP.out _ hb3)
  have H31 := Lib.hid h31
  have H32 := Lib.hid h32
  have Hb3 := Lib.hid hb3
  obtain ⟨F1, hok, nd1, rg1⟩ := hor3.own
  have Hok := Lib.hid hok
  have Hn1 := Lib.hid nd1
  have Hr1 := Lib.hid rg1
  have Hs3 := Lib.hid (show w1.heap.size ≤ (w2.setCell ⟨w.heap.size + 2, 4, none⟩ (.slice (some ⟨g1, 0, none⟩) ks.length ks.length)).heap.size by simpa [World.setCell] using hb2.size)
  clear HS HP hown1 hb2 h20 h21 h22 h30 h31 h32 hb3 hor3 hok nd1 rg1 Hown1 H10 H11 H12 Hb1 Hw1 Hb2
  go_wp2_with fail
  generalize w2.setCell ⟨w.heap.size + 2, 4, none⟩ (.slice (some ⟨g1, 0, none⟩) ks.length ks.length) = w3 at *
  refine HP3.out.mono ?_
  rintro e w4 ⟨A', c', rfl, hown4, hb4⟩
  have h41 := heap_kept hb4 (heap_lt H31.out) H31.out
  have h42 := heap_kept hb4 (heap_lt H32.out) H32.out
  obtain ⟨F2, hok2, nd2, rg2⟩ := hown4.own
  have Hok4 := Lib.hid (Hok.out.below hb4)
  have Hb4 := Lib.hid (Hb3.out.trans (hb4.mono Hb3.out.size))
  have p6 : w4.cell? ⟨w.heap.size + 2, 5, none⟩ = some (.slice none 0 0) := by rw [cell_of_row w4 _ 5 _ _ _ h42]; rfl
  have f6 := frozen_of_row w4 _ 5 _ _ h42
  have h51 : (w4.setCell ⟨w.heap.size + 2, 5, none⟩ (.slice A' kids.length c')).heap[w.heap.size + 1]? = _ := (Below.heap_setCell _ _ _ _ (by show w.heap.size + 1 ≠ w.heap.size + 2; omega)).trans h41
  have h52 : (w4.setCell ⟨w.heap.size + 2, 5, none⟩ (.slice A' kids.length c')).heap[w.heap.size + 2]? = some (.cells #[.int .i64 k, .bool fl, .int .i64 n, .string s, .slice (some ⟨g1, 0, none⟩) ks.length ks.length, .slice A' kids.length c'] 30 (0, 0)) := heap_setCell_same _ _ _ _ _ _ h42
  have Hb5 := Lib.hid (show Below w.heap.size w (w4.setCell ⟨w.heap.size + 2, 5, none⟩ (.slice A' kids.length c')) from Hb4.out.setCell (by show w.heap.size ≤ w.heap.size + 2; omega) _)
  have hlt3 : w.heap.size + 2 < w3.heap.size := heap_lt H32.out
  have Hok5 := Lib.hid (Hok4.out.setCell_low (o := 5) (u := .slice A' kids.length c') (show w.heap.size + 2 < w1.heap.size by rw [Hsz.out]; omega))
  have Hkid5 := Lib.hid (hok2.setCell_low (o := 5) (u := .slice A' kids.length c') hlt3)
  have Hd5 := Lib.hid (show ∀ x ∈ F1, x ∉ F2 from fun x hx hy => by have h1 := (Hr1.out x hx).2; have h2 := (rg2 x hy).1; omega)
  have Hn2 := Lib.hid nd2
  have Hs5 := Lib.hid (Nat.le_trans Hs3.out hb4.size)
  clear hown4 hb4 HP3 h41 h42 H31 H32 Hb3 Hok Hok4 hok2 nd2 rg2 Hb4 p4 p5 f4
  have h51' := h51
  have h52' := h52
  clear h51 h52
  generalize hw5 : w4.setCell ⟨w.heap.size + 2, 5, none⟩ (.slice A' kids.length c') = w5 at *
  have H51 := Lib.hid h51'
  go_wp2_with (first | (refine wpList_load_row rfl 30 _ rfl (w.heap.size + 2) rfl 30 #[.int .i64 k, .bool fl, .int .i64 n, .string s, .slice (some ⟨g1, 0, none⟩) ks.length ks.length, .slice A' kids.length c'] (0, 0) _ h52' Try.underlying30 rfl tree_size ?_) | (refine wpList_store_row rfl 30 _ _ rfl (w.heap.size + 1) #[.int .i64 k, .bool fl, .int .i64 n, .string s, .slice (some ⟨g1, 0, none⟩) ks.length ks.length, .slice A' kids.length c'] rfl rfl 30 _ h51' tree_size rfl (tree_one _ _ _ _ _ _ _ _ _ _) ?_) | fail)
  have Hok6 := (Hok5.out.setRow_low (c := #[.int .i64 k, .bool fl, .int .i64 n, .string s, .slice (some ⟨g1, 0, none⟩) ks.length ks.length, .slice A' kids.length c']) (show w.heap.size + 1 < w1.heap.size by rw [Hsz.out]; omega)).lower (B' := w.heap.size) (by rw [Hsz.out]; omega)
  have Hkid6 := (Hkid5.out.setRow_low (c := #[.int .i64 k, .bool fl, .int .i64 n, .string s, .slice (some ⟨g1, 0, none⟩) ks.length ks.length, .slice A' kids.length c']) (show w.heap.size + 1 < w3.heap.size by omega)).lower (B' := w.heap.size) (by omega)
  obtain ⟨F, ho, hnd, _⟩ := own_tree (fl := fl) Hw.out.1 Hw.out.2.1 Hw.out.2.2.1 Hok6 Hkid6 Hn1.out Hn2.out Hd5.out
  refine bodyPost_ret (v := .agg #[.int .i64 k, .bool fl, .int .i64 n, .string s, .slice (some ⟨g1, 0, none⟩) ks.length ks.length, .slice A' kids.length c']) ?_ rfl ⟨⟨_, F, rfl, ho, hnd⟩, setRow_below Hb5.out (by omega) _⟩
  exact results_cell_row rfl _ _ (w.heap.size + 1) _ _ (0, 0) _ rfl (setRow_at H51.out) Try.underlying30 rfl tree_size

theorem TryinfoTree : (Try.prog.info? 30).map (fun i => (i.zero, i.size, i.bytes)) = some (some (.agg #[.int .i64 0, .bool false, .int .i64 0, .string ⟨#[]⟩, .slice none 0 0, .slice none 0 0]), 6, 88) := by kernel_rfl

set_option maxRecDepth 100000 in
theorem to_kids_step {f : Nat} (hE : ∀ (t : T) (vs : List Value) (w : World), LiesS w f vs (row t) → weight t ≤ 1048576 →
    Calls Try.prog 13 #[.agg vs.toArray] w fun e w' => TreeOut w.heap.size (f + 2) t e w' ∧ Below w.heap.size w w') : ToKids f := by
  intro A c kids w hc hm hk hw
  obtain ⟨i0, hi, hz0, hz1, hz2⟩ := info_parts TryinfoTree
  have Hk := Lib.hid hk
  have HE := Lib.hid hE
  clear hk hE
  unfold maxLen at hm
  go_enter Try.func32, Try.ntmps32
  go_wp2_with (at_make; refine wpList_make_full _ rfl _ _ 28 rfl w.heap.size 30 i0 _ 6 Try.underlying28 hi hz0 hz1 .i64 .i64 (kids.length : Int) (kids.length : Int) kids.length rfl rfl rfl rfl (by rw [hz2]; omega) (by unfold maxLen; omega) (by simp) ?_)
  intro w1 hown1 hg1
  have hb1 : Below w.heap.size w w1 := (Below.refl _ _).grown hg1 (Nat.le_refl _) (fun b hb => by cases hb)
  obtain ⟨xs, hown⟩ : ∃ xs : List Value, w1.ownsRow w.heap.size 30 6 (.slice (some ⟨w.heap.size, 0, none⟩) kids.length kids.length) kids.length xs := ⟨_, hown1⟩
  have Hown := Lib.hid hown
  have Hb1 := Lib.hid hb1
  clear hown1 hown hb1 hg1
  go_wp2_with fail
  go_loopw [4] (fun i wr => ∃ (k : Nat) (xs : List Value) (F : List Nat), k ≤ kids.length ∧ i = .int .i64 k ∧ wr.ownsRow w.heap.size 30 6 (.slice (some ⟨w.heap.size, 0, none⟩) kids.length kids.length) kids.length xs ∧
    OwnS wr w.heap.size (f + 2) (xs.take (k * 6)) (rows (kids.take k)) F ∧ F.Nodup ∧ (∀ x ∈ F, x ≠ w.heap.size) ∧ Below w.heap.size w wr) (fun i _ => kids.length - (intOf i).toNat)
  case atStart => exact ⟨0, xs, [], Nat.zero_le _, rfl, Hown.out, by simpa [rows] using OwnS.nil, List.nodup_nil, (fun x hx => by cases hx), Hb1.out⟩
  case round =>
    clear Hown Hb1 xs
    obtain ⟨k, xs, F, hk, rfl, hown, ho, hnd, hne, hbel⟩ := hrel
    by_cases hlt : k < kids.length
    · obtain ⟨g, o, rfl, hg, hkid⟩ := (Hk.out.below hbel) (by omega)
      obtain ⟨u0, u1, u2, u3, u4, u5, ⟨q0, q1, q2, q3, q4, q5⟩, hls⟩ := hkid k kids[k] (List.getElem?_eq_getElem hlt)
      have hwk : weight kids[k] ≤ 1048576 := by
        have h1 : weights kids = weights (kids.take (k + 1)) + weights (kids.drop (k + 1)) := by rw [← weights_append, List.take_append_drop]
        rw [List.take_succ_eq_append_getElem hlt, weights_append] at h1
        have h2 : weights [kids[k]] = weight kids[k] := by simp [weights]
        omega
      have hr1 : rows (kids.take (k + 1)) = rows (kids.take k) ++ row kids[k] := by
        rw [List.take_succ_eq_append_getElem hlt, rows_append]
        simp [rows]
      have Hr1 := Lib.hid hr1
      have HC := Lib.hid (HE.out kids[k] _ wr hls hwk)
      have Hown := Lib.hid hown
      have Ho := Lib.hid ho
      have Hbel := Lib.hid hbel
      have hlb : w.heap.size < wr.heap.size := (hown.lt w.heap.size rfl).2
      have Hlb := Lib.hid hlb
      clear hkid hls hg hwk hr1 hown ho hbel hlb
      generalize kids[k] = x at HC Hr1
      go_wp2_with fail
      refine HC.out.mono ?_
      rintro e w2 ⟨⟨us, G, rfl, hoG, hnG⟩, hb2⟩
      have hlen : us.length = 6 := by rw [hoG.1, row_length]
      have hown2 := own_below' Hown.out hb2
      have ho2 := Ho.out.below hb2
      have hthere := own_there hown2 (k * 6) us.toArray.size (by simp [hlen]; omega)
      have hone := hoG.one
      have hsize : (Try.prog.info? 30).map (·.size) = some us.toArray.size := by rw [List.size_toArray, hlen]; exact tree_size
      have Hfill := Lib.hid (own_fill hown2 hlt hlen ho2 hnd hne (hoG.lower (Nat.le_trans Hbel.out.size (Nat.le_refl _))) hnG (fun y hy hyG => by have h1 := (Ho.out.range y hy).2; have h2 := (hoG.range y hyG).1; omega) (fun y hy => by have h1 := (hoG.range y hy).1; have h2 := Hlb.out; omega) rfl)
      have Hbel2 := Lib.hid (Hbel.out.trans (hb2.mono Hbel.out.size))
      clear HC hoG hnG hb2 hown2 ho2 Ho hnd hne Hown Hbel q0 q1 q2 q3 q4 q5
      go_wp2_with (first | (refine Go.wpList_store_mid rfl 30 _ _ rfl w.heap.size (k * 6) us.toArray rfl rfl hthere hsize hone ?_) | fail)
      have hf := Hfill.out
      rw [← Hr1.out] at hf
      have hbel3 : Below w.heap.size w (w2.setCells w.heap.size (k * 6) us) := Hbel2.out.grown hf.2.2.2.2 Hbel2.out.size (fun b hb => by injection hb with hb; omega)
      have HF := Lib.hid hf
      have Hbel3 := Lib.hid hbel3
      clear hf hbel3 Hfill hthere hone hsize
      go_wp2_with fail
      go_roundw
      case rel => exact ⟨k + 1, _, _, by omega, by go_num, HF.out.1, HF.out.2.1, HF.out.2.2.1, HF.out.2.2.2.1, Hbel3.out⟩
      case measure => simp [intOf]; omega
    · obtain rfl : k = kids.length := by omega
      rw [List.take_of_length_le (Nat.le_refl _)] at ho
      have HR := Lib.hid (own_filled hown (by rw [rows_length]) ho hnd hne)
      have Hbel := Lib.hid hbel
      clear hown ho hbel
      go_wp2_with fail
      go_ret
      exact ⟨_, _, rfl, HR.out, Hbel.out⟩
theorem to_kids : ∀ f, ToKids f
  | 0 => to_kids_step (fun t vs w h => by
      obtain ⟨k, fl, n, s, ks, kids⟩ := t
      obtain ⟨_, _, _, _, _, _, _, _, _, _, _, _, _, _, f', hf, _⟩ := open_tree h
      omega)
  | f + 1 => to_kids_step (fun t vs w h hw => to_of (to_kids f) t vs w h hw)
/-- toTree of a tree that lies in memory. -/
theorem to_tree {f : Nat} (t : T) (vs : List Value) (w : World) (h : LiesS w f vs (row t)) (hw : weight t ≤ 1048576) :
    Calls Try.prog 13 #[.agg vs.toArray] w fun e w' => TreeOut w.heap.size (f + 3) t e w' ∧ Below w.heap.size w w' :=
  to_of (to_kids f) t vs w (h.deeper (Nat.le_succ f)) hw
end Go.Proofs.Ytmldigfghiofkaa.tree
