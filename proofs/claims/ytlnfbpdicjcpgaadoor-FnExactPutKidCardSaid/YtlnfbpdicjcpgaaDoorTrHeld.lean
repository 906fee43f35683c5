/- The law's own marks on a tree, top: markTree; and found again: heldTreeS, heldTree. -/
import Derived.Test.YtlnfbpdicjcpgaaDoorTrMark
namespace Go.Proofs.YtlnfbpdicjcpgaaDoor.tree
open Go.ChangeShapes Go.WideShapes Go.ChangeAt Go.RowKit
open lawStr
set_option linter.unusedVariables false

/-- What markTree leaves of a tree that was handed in by value. -/
def topT : T → Int → T
  | .mk kd f n s ks kids, k => .mk kd f n s (marks k ks.length) (markTs kids (k + ks.length))
def topCost : T → Nat
  | .mk _ _ _ _ ks kids => ks.length + costs kids
theorem topCost_le (t : T) : topCost t ≤ 5 * weight t + 5 := by
  cases t with
  | mk kd f n s ks kids =>
    have h := cost_le (.mk kd f n s ks kids)
    rw [cost] at h
    rw [topCost]
    omega
theorem mark_tree {B f : Nat} (t : T) (vs : List Value) (F : List Nat) (k : Int) (w : World) (h : OwnS w B f vs (row t) F) (hnd : F.Nodup) (h0 : 0 ≤ k) (hk : k + topCost t ≤ 4611686018427387904) :
    Calls Tryd.prog 11 #[.agg vs.toArray, .int .i64 k] w fun e w' => e = .returned (.int .i64 (k + topCost t)) ∧ OwnS w' B f vs (row (topT t k)) F ∧ KeptBut F w w' := by
  obtain ⟨kd, fl, nm, s, ks, kids⟩ := t
  obtain ⟨v1, v2, F1, F2, rfl, wk, wn, ws, o1, o2, rfl, n1, n2, hd⟩ := owned_tree h hnd
  rw [topCost] at hk ⊢
  cases f with
  | zero => exact o1.elim
  | succ f =>
  have hb0 : Below w.heap.size w (w.alloc (.cells #[.int .i64 kd, .bool fl, .int .i64 nm, .string s, v1, v2] 29)) := (Below.refl _ _).alloc (Nat.le_refl _) _
  have h10 : (w.alloc (.cells #[.int .i64 kd, .bool fl, .int .i64 nm, .string s, v1, v2] 29)).heap[w.heap.size]? = some (.cells #[.int .i64 kd, .bool fl, .int .i64 nm, .string s, v1, v2] 29 (0, 0)) := heap_alloc_new w _
  have p4 := cell_of_row _ _ 4 _ _ _ h10
  have p4' : (w.alloc (.cells #[.int .i64 kd, .bool fl, .int .i64 nm, .string s, v1, v2] 29)).cell? ⟨w.heap.size, 4, none⟩ = some v1 := p4
  clear p4
  have o1' := o1.below hb0
  have o2' := o2.below hb0
  have rg1 := o1.range
  have rg2 := o2.range
  obtain ⟨e6, r6, _, hF6⟩ := own_strs_row (ks := ks) o1'
  have HM := Lib.hid (lawStr.mark_any B ks.length v1 k (scells ks) _ r6 h0 (by omega))
  have H10 := Lib.hid h10
  have Ho1 := Lib.hid o1'
  have Ho2 := Lib.hid o2'
  have Hw := Lib.hid (show (Lit.int .i64 kd).wf = true ∧ (Lit.int .i64 nm).wf = true ∧ s.size ≤ maxLen from ⟨wk, wn, ws⟩)
  have Hd := Lib.hid hd
  have Hb0 := Lib.hid (KeptBut.of_below (F := F1 ++ F2) hb0)
  have Hsz := Lib.hid (show w.heap.size < (w.alloc (.cells #[.int .i64 kd, .bool fl, .int .i64 nm, .string s, v1, v2] 29)).heap.size from heap_lt h10)
  have HF6 := Lib.hid hF6
  have Hr1 := Lib.hid rg1
  have Hr2 := Lib.hid rg2
  clear h hnd o1 o2 o1' o2' r6 h10 wk wn ws hd hb0 hF6 rg1 rg2
  go_enter Tryd.func11, Tryd.ntmps11
  go_wp2_with fail
  refine HM.out.mono ?_
  rintro e w2 ⟨rfl, r7, g7⟩
  have kb7 := KeptBut.of_row g7 HF6.out
  have o7 := own_strs_again Ho1.out r7 (by rw [marks_length]) (fun x hx => by
    simp only [marks, List.mem_map, List.mem_range] at hx
    obtain ⟨m, hm, rfl⟩ := hx
    exact mt_size _ (by omega)) HF6.out
  have o8 := Ho2.out.but kb7 (fun x hx hy => Hd.out x hy hx)
  have p5 : w2.cell? ⟨w.heap.size, 5, none⟩ = some v2 := by
    rw [cell_of_row w2 w.heap.size 5 _ _ _ ((kb7.block w.heap.size Hsz.out (fun hx => by have := (Hr1.out _ hx).2; omega)).trans H10.out)]
    rfl
  have HP := Lib.hid (mark_kids f B v2 kids F2 (k + ks.length) w2 o8 n2 (by omega) (by omega))
  have Ho7 := Lib.hid o7
  have Hkb7 := Lib.hid (Hb0.out.trans (kb7.mono (fun x hx => List.mem_append_left _ hx)))
  clear HM r7 g7 kb7 o7 o8 Ho1 Ho2 H10 Hb0 p4'
  go_wp2_with fail
  refine HP.out.mono ?_
  rintro e w3 ⟨rfl, o9, kb9⟩
  have Ho10 := Lib.hid (Ho7.out.but kb9 (fun x hx hy => Hd.out x hx hy))
  have Ho9 := Lib.hid o9
  have Hkb9 := Lib.hid (Hkb7.out.trans (kb9.mono (fun x hx => List.mem_append_right _ hx)))
  clear HP o9 kb9 Ho7 Hkb7 p5
  go_wp2_with fail
  go_ret
  refine ⟨ret_int (by simp; omega), ?_, Hkb9.out⟩
  rw [topT, row, marks_length, markTs_length]
  have h := OwnS.cons (own_int (w := w3) (B := B) (f := f) Hw.out.1) (OwnS.cons (own_bool (b := fl)) (OwnS.cons (own_int Hw.out.2.1) (OwnS.cons (own_str Hw.out.2.2) (OwnS.cons Ho10.out (OwnS.cons Ho9.out OwnS.nil)))))
  simpa [skeys] using h

/-- At a depth. -/
def HeldKids (f : Nat) : Prop := ∀ (A : Option Addr) (c : Nat) (kids : List T) (k : Int) (w : World), kids.length ≤ c → c ≤ maxLen → KidsAt w f A (markTs kids k) → 0 ≤ k → k + costs kids ≤ 4611686018427387904 →
  Calls Tryd.prog 43 #[.slice A kids.length c, .int .i64 k] w fun e w' => e = .returned (.int .i64 (k + costs kids)) ∧ Below w.heap.size w w'
set_option maxRecDepth 100000 in
set_option maxHeartbeats 8000000 in
theorem held_kids_step {f : Nat} (hP : ∀ f', f = f' + 1 → HeldKids f') : HeldKids f := by
  intro A c kids k w hc hm hk h0 hkk
  unfold maxLen at hm
  have Hk := Lib.hid hk
  have HP := Lib.hid hP
  clear hk hP
  go_enter Tryd.func43, Tryd.ntmps43
  go_wp2_with fail
  go_loopw [1, 5] (fun a i wr => ∃ (j : Nat), j ≤ kids.length ∧ i = .int .i64 j ∧ a = .int .i64 (k + costs (kids.take j)) ∧ Below w.heap.size w wr) (fun _ i _ => kids.length - (intOf i).toNat)
  case atStart => exact ⟨0, Nat.zero_le _, rfl, by simp [costs], Below.refl _ _⟩
  case round =>
    obtain ⟨j, hj, rfl, rfl, hbel⟩ := hrel
    by_cases hlt : j < kids.length
    · obtain ⟨g, o, rfl, hg, hkid⟩ := (Hk.out.below hbel) (by rw [markTs_length]; omega)
      have htake : kids.take (j + 1) = kids.take j ++ [kids[j]] := List.take_succ_eq_append_getElem hlt
      have hdrop : kids.drop j = kids[j] :: kids.drop (j + 1) := List.drop_eq_getElem_cons hlt
      have hsplit : kids = kids.take j ++ (kids[j] :: kids.drop (j + 1)) := by rw [← hdrop, List.take_append_drop]
      have hget : (markTs kids k)[j]? = some (markT kids[j] (k + costs (kids.take j))) := by
        have e : markTs kids k = markTs (kids.take j) k ++ (markT kids[j] (k + costs (kids.take j)) :: markTs (kids.drop (j + 1)) (k + costs (kids.take j) + cost kids[j])) := by
          conv => lhs; rw [hsplit]
          rw [markTs_append, markTs]
        rw [e, List.getElem?_append_right (by rw [markTs_length, List.length_take]; omega), markTs_length, List.length_take, show j - min j kids.length = 0 by omega]
        rfl
      have hall : costs kids = costs (kids.take j) + (cost kids[j] + costs (kids.drop (j + 1))) := by
        conv => lhs; rw [hsplit]
        rw [costs_append, costs]
      have hnext : costs (kids.take (j + 1)) = costs (kids.take j) + cost kids[j] := by rw [htake, costs_append]; simp [costs]
      obtain ⟨u0, u1, u2, u3, u4, u5, hsix, hls⟩ := hkid j _ hget
      have Hnext := Lib.hid hnext
      generalize costs (kids.take j) = C0 at *
      cases hx : kids[j] with
      | mk kd fl nm s ks kk =>
      rw [hx, markT] at hls
      rw [hx, cost] at hall Hnext
      obtain ⟨A1, c1, A2, c2, hv, _, _, hs3, hc1, hc2, hr, hks, hc3, hc4, f', hf, hkk2⟩ := open_tree hls
      rw [marks_length] at hv hc1 hr
      rw [markTs_length] at hv hc3
      simp only [List.cons.injEq, and_true] at hv
      obtain ⟨rfl, rfl, rfl, rfl, rfl, rfl⟩ := hv
      obtain ⟨q0, q1, q2, q3, q4, q5⟩ := hsix
      obtain ⟨K, hK⟩ : ∃ K, k + C0 = K := ⟨_, rfl⟩
      rw [hK] at q0 q1 q2 q3 hr hkk2 ⊢
      rw [show decide ((K + 1) % 3 = 0) = ((K + 1) % 3 == 0) from rfl] at q1
      have efl : (((K + 1) % 3 == 0) == ((K + 1) % 3 == 0)) = true := by simp
      have HK := Lib.hid hK
      have hbd : K + 4 + ks.length + costs kk ≤ 4611686018427387904 := by omega
      have hK0 : 0 ≤ K := by omega
      have e3 : (K + 1) + 1 = K + 2 := by omega
      have e4 : (K + 2) + 1 = K + 3 := by omega
      have e5 : (K + 3) + 1 = K + 4 := by omega
      have hmt := fun w => mark_text (K + 3) w (by omega)
      have HMT := Lib.hid hmt
      have HH := Lib.hid (fun w1 (hb : Below wr.heap.size wr w1) => lawStr.held_yes A1 ks.length c1 (K + 4) w1 (hr.below hb) (by omega) (by omega))
      have HR := Lib.hid (fun w1 (hb : Below wr.heap.size wr w1) => HP.out f' hf A2 c2 kk (K + 4 + ks.length) w1 hc3 hc4 (hkk2.below hb) (by omega) (by omega))
      have Hbel := Lib.hid hbel
      clear hkid hget hsplit hdrop htake hall hnext hls hr hkk2 hbel hks hc1 hc2 hc3 hc4 hmt hf hs3 hx hK
      go_wp2_with fail
      go_region_law (go_simp; go_at_call 62; refine (HMT.out _).mono ?_; rintro e w1 ⟨rfl, hb1⟩; have q3' : w1.cell? ⟨g, o + j * 6 + 3, none⟩ = some (.string (lawStr.mt (K + 3))) := (hb1.cell (p := ⟨g, o + j * 6 + 3, none⟩) hg).trans q3)
      all_goals
        have hb2 : Below wr.heap.size wr w1 := (Below.refl _ _).drew.trans (hb1.mono (Nat.le_refl _))
        have q4' : w1.cell? ⟨g, o + j * 6 + 4, none⟩ = some (.slice A1 ks.length c1) := (hb2.cell (p := ⟨g, o + j * 6 + 4, none⟩) hg).trans q4
        go_wp2_with fail
        refine (HH.out _ hb2).mono ?_
        rintro e w2 ⟨rfl, hb3⟩
        have hb4 : Below wr.heap.size wr w2 := hb2.trans (hb3.mono hb2.size)
        have q5' : w2.cell? ⟨g, o + j * 6 + 5, none⟩ = some (.slice A2 kk.length c2) := (hb4.cell (p := ⟨g, o + j * 6 + 5, none⟩) hg).trans q5
        go_wp2_with fail
        refine (HR.out _ hb4).mono ?_
        rintro e w3 ⟨rfl, hb5⟩
        have Hbel3 := Lib.hid (Hbel.out.trans ((hb4.trans (hb5.mono hb4.size)).mono Hbel.out.size))
        go_wp2_with fail
        go_roundw
        case rel => exact ⟨j + 1, by omega, by go_num, by rw [Hnext.out]; have := HK.out; congr 1; omega, Hbel3.out⟩
        case measure => simp [intOf]; omega
    · obtain rfl : j = kids.length := by omega
      rw [List.take_of_length_le (Nat.le_refl _)]
      have Hbel := Lib.hid hbel
      clear hbel
      go_wp2_with fail
      go_ret
      exact ⟨rfl, Hbel.out⟩
theorem held_kids : ∀ f, HeldKids f
  | 0 => held_kids_step (fun f' hf => by omega)
  | f + 1 => held_kids_step (fun f' hf => by obtain rfl : f = f' := by omega
                                             exact held_kids f)
theorem held_tree {f : Nat} (t : T) (vs : List Value) (k : Int) (w : World) (h : LiesS w f vs (row (topT t k))) (h0 : 0 ≤ k) (hk : k + topCost t ≤ 4611686018427387904) :
    Calls Tryd.prog 12 #[.agg vs.toArray, .int .i64 k] w fun e w' => e = .returned (.int .i64 (k + topCost t)) ∧ Below w.heap.size w w' := by
  obtain ⟨kd, fl, nm, s, ks, kids⟩ := t
  rw [topT] at h
  rw [topCost] at hk ⊢
  obtain ⟨A1, c1, A2, c2, rfl, _, _, _, hc1, hc2, hr, _, hc3, hc4, f', hf, hkk⟩ := open_tree h
  rw [marks_length] at hc1 hr h ⊢
  rw [markTs_length] at hc3 h ⊢
  have HB := Lib.hid (Box.new 29 w [.int .i64 kd, .bool fl, .int .i64 nm, .string s, .slice A1 ks.length c1, .slice A2 kids.length c2])
  have p4 := HB.out.cell (j := 4) rfl
  have HH := Lib.hid (lawStr.held_yes A1 ks.length c1 k _ (hr.below HB.out.1) (by omega) (by omega))
  have HR := Lib.hid (fun w1 (hb : Below w.heap.size w w1) => held_kids f' A2 c2 kids (k + ks.length) w1 hc3 hc4 (hkk.below hb) (by omega) (by omega))
  clear h hr hkk hc1 hc2 hc3 hc4 hf
  go_enter Tryd.func12, Tryd.ntmps12
  go_wp2_with fail
  refine HH.out.mono ?_
  rintro e w2 ⟨rfl, hb2⟩
  have HB2 := Lib.hid (HB.out.below hb2)
  have p5 := HB2.out.cell (j := 5) rfl
  clear HH HB hb2 p4
  go_wp2_with fail
  refine (HR.out _ HB2.out.1).mono ?_
  rintro e w3 ⟨rfl, hb3⟩
  have HB3 := Lib.hid (HB2.out.below hb3)
  clear HR hb3 HB2 p5
  go_wp2_with fail
  go_ret
  exact ⟨ret_int (by simp; omega), HB3.out.1⟩
end Go.Proofs.YtlnfbpdicjcpgaaDoor.tree
