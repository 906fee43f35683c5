/- Merged: TrMark TrMarkT TrHeld CpStep. -/
import Derived.Test.YtangdmjdjiddcaaDoorGA3
import Derived.Test.YtangdmjdjiddcaaDoorLawStr
import Derived.Test.YtangdmjdjiddcaaDoorGA7
namespace Go.Proofs.YtangdmjdjiddcaaDoor.tree
open Go.ChangeShapes Go.WideShapes Go.ChangeAt Go.RowKit
open lawStr
set_option linter.unusedVariables false

mutual
def cost : T → Nat
  | .mk _ _ _ _ ks kids => 4 + ks.length + costs kids
def costs : List T → Nat
  | [] => 0
  | t :: r => cost t + costs r
end
theorem costs_append : ∀ a b : List T, costs (a ++ b) = costs a + costs b
  | [], b => by simp [costs]
  | t :: r, b => by rw [List.cons_append, costs, costs, costs_append r b]; omega
theorem cost_le : ∀ t, cost t ≤ 4 + 5 * weight t := by
  refine T.ind fun k f n s ks kids ih => ?_
  rw [cost, weight]
  have : costs kids ≤ 5 * (kids.length + weights kids) := by
    clear f n s ks k
    induction kids with
    | nil => simp [costs]
    | cons a r ih2 =>
      rw [costs, weights, List.length_cons]
      have h1 := ih a List.mem_cons_self
      have h2 := ih2 (fun x hx => ih x (List.mem_cons_of_mem _ hx))
      omega
  omega
mutual
def markT : T → Int → T
  | .mk _ _ _ _ ks kids, k => .mk k (decide ((k + 1) % 3 = 0)) (k + 2) (lawStr.mt (k + 3)) (marks (k + 4) ks.length) (markTs kids (k + 4 + ks.length))
def markTs : List T → Int → List T
  | [], _ => []
  | t :: r, k => markT t k :: markTs r (k + cost t)
end
theorem markTs_length : ∀ (l : List T) (k : Int), (markTs l k).length = l.length
  | [], _ => rfl
  | t :: r, k => by rw [markTs, List.length_cons, List.length_cons, markTs_length r]
theorem markTs_append : ∀ (a b : List T) (k : Int), markTs (a ++ b) k = markTs a k ++ markTs b (k + costs a)
  | [], b, k => by simp [markTs, costs]
  | t :: r, b, k => by
    rw [List.cons_append, markTs, markTs, markTs_append r b, costs, List.cons_append]
    congr 3
    omega
theorem dg_length : ∀ (f m : Nat) (acc : List UInt8), (dg f m acc).length ≤ f + acc.length
  | 0, m, acc => by simp [dg]
  | f + 1, m, acc => by
    rw [dg]
    split
    · omega
    · have h := dg_length f (m / 10) (UInt8.ofNat (48 + m % 10) :: acc)
      rw [List.length_cons] at h
      omega
theorem mt_size (m : Int) (h : m ≤ 4611686018427387904) : (lawStr.mt m).size ≤ maxLen := by
  unfold lawStr.mt maxLen
  split
  · decide
  · show (109 :: dg m.toNat m.toNat []).toArray.size ≤ _
    rw [List.size_toArray, List.length_cons]
    have := dg_length m.toNat m.toNat []
    simp at this
    omega
theorem wf_of {k : Int} (h0 : -9223372036854775808 ≤ k) (h1 : k ≤ 9223372036854775807) : (Lit.int .i64 k).wf = true := by
  have e1 : IntKind.i64.min = -9223372036854775808 := rfl
  have e2 : IntKind.i64.max = 9223372036854775807 := rfl
  simp [Lit.wf, e1, e2]
  omega
/-- At a depth. -/
def MarkKids (f : Nat) : Prop := ∀ (B : Nat) (v : Value) (kids : List T) (F : List Nat) (k : Int) (w : World), Own w B (f + 1) v (.sl 6 kids.length (rows kids)) F → F.Nodup → 0 ≤ k → k + costs kids ≤ 4611686018427387904 →
  Calls Tryd.prog 28 #[v, .int .i64 k] w fun e w' => e = .returned (.int .i64 (k + costs kids)) ∧ Own w' B (f + 1) v (.sl 6 kids.length (rows (markTs kids k))) F ∧ KeptBut F w w'

theorem mark_kids_nil (f B : Nat) (k : Int) (w : World) (h0 : 0 ≤ k) (hk : k ≤ 4611686018427387904) :
    Calls Tryd.prog 28 #[.slice none 0 0, .int .i64 k] w fun e w' => e = .returned (.int .i64 k) ∧ w' = w := by
  go_enter Tryd.func28, Tryd.ntmps28
  go_wp2_with fail
  refine wp_loop_rounds 1 ?_
  rw [rounds_succ]
  go_wp2_with fail
  go_ret
  exact ⟨rfl, rfl⟩

set_option maxRecDepth 100000 in
set_option maxHeartbeats 8000000 in
theorem mark_kids_step {f : Nat} (hP : ∀ f', f = f' + 1 → MarkKids f') : MarkKids f := by
  intro B v kids F k w hown hnd h0 hk
  have hown' := hown
  obtain ⟨hl, ⟨rfl, hn, rfl⟩ | ⟨g, c, cur, e, Fs, rfl, h1, h2, h3, h4, hz, hF, h5, h6⟩⟩ := hown'
  · have : kids = [] := List.eq_nil_of_length_eq_zero hn
    subst this
    rw [costs] at hk ⊢
    refine (mark_kids_nil f B k w h0 (by omega)).mono ?_
    rintro e w' ⟨rfl, rfl⟩
    exact ⟨by simp, by simpa [markTs] using hown, KeptBut.refl _ _⟩
  have hcm : kids.length ≤ 9223372036854775807 := by unfold maxLen at h2; omega
  clear hl h3 h4 hz hF h5 h6 cur e Fs
  have HP := Lib.hid hP
  have Hown := Lib.hid hown
  clear hown hP
  go_enter Tryd.func28, Tryd.ntmps28
  go_wp2_with fail
  go_loopw [1, 5] (fun a i wr => ∃ (j : Nat), j ≤ kids.length ∧ i = .int .i64 j ∧ a = .int .i64 (k + costs (kids.take j)) ∧ Own wr B (f + 1) (.slice (some ⟨g, 0, none⟩) kids.length c) (.sl 6 kids.length (rows (markTs (kids.take j) k ++ kids.drop j))) F ∧ KeptBut F w wr) (fun _ i _ => kids.length - (intOf i).toNat)
  case atStart => exact ⟨0, Nat.zero_le _, rfl, by simp [costs], by simpa [markTs] using Hown.out, KeptBut.refl _ _⟩
  case round =>
    clear Hown
    obtain ⟨j, hj, rfl, rfl, hown, hkb⟩ := hrel
    by_cases hlt : j < kids.length
    · obtain ⟨kd, fl, nm, s, ks, kk, hx⟩ : ∃ kd fl nm s ks kk, kids[j] = T.mk kd fl nm s ks kk := by
        cases hx : kids[j] with
        | mk kd fl nm s ks kk => exact ⟨kd, fl, nm, s, ks, kk, rfl⟩
      have hdrop : kids.drop j = kids[j] :: kids.drop (j + 1) := List.drop_eq_getElem_cons hlt
      have htake : kids.take (j + 1) = kids.take j ++ [kids[j]] := List.take_succ_eq_append_getElem hlt
      have hall : costs kids = costs (kids.take j) + (costs [kids[j]] + costs (kids.drop (j + 1))) := by
        rw [← costs_append, ← costs_append, List.singleton_append, ← hdrop, List.take_append_drop]
      have hone : costs [kids[j]] = 4 + ks.length + costs kk := by rw [hx]; simp [costs, cost]
      have hnext : costs (kids.take (j + 1)) = costs (kids.take j) + (4 + ks.length + costs kk) := by rw [htake, costs_append, hone]
      have hmark : markTs (kids.take (j + 1)) k ++ kids.drop (j + 1) = markTs (kids.take j) k ++ (markT kids[j] (k + costs (kids.take j)) :: kids.drop (j + 1)) := by
        rw [htake, markTs_append]
        simp [markTs]
      rw [hdrop, rows_append, rows, hx] at hown
      have Hmark := Lib.hid hmark
      rw [hx] at Hmark
      have HL := Lib.hid (show (rows (markTs (kids.take j) k)).length = j * 6 by rw [rows_length, markTs_length, List.length_take]; congr 1; omega)
      have Hnext := Lib.hid hnext
      generalize costs (kids.take j) = C0 at *
      have hkk : k + C0 + 4 + ks.length + costs kk ≤ 4611686018427387904 := by omega
      clear hmark hnext hall hone hx hdrop htake
      obtain ⟨K, hK⟩ : ∃ K, k + C0 = K := ⟨_, rfl⟩
      rw [hK] at hkk Hmark ⊢
      have hK0 : 0 ≤ K := by omega
      have HK := Lib.hid hK
      clear hK
      generalize hLL : rows (markTs (kids.take j) k) = L at *
      generalize hRR : rows (kids.drop (j + 1)) = R at *
      have hown0 : Own wr B (f + 1) (.slice (some ⟨g, 0, none⟩) kids.length c) (.sl 6 kids.length (mid L (row (.mk kd fl nm s ks kk)) R)) F := hown
      clear hown
      cases f with
      | zero =>
        obtain ⟨_, _, _, _, ho, _⟩ := Own.field hown0 hnd HL.out (r := 0) rfl
        exact ho.elim
      | succ f =>
      obtain ⟨o1, b1, ⟨q1, p1⟩, f1⟩ := Own.put (r := 0) (d' := .int .i64 K) (u' := .int .i64 K) hown0 hnd HL.out rfl trivial (fun w' => own_int (wf_of (by omega) (by omega)))
      obtain ⟨o2, b2, ⟨q2, p2⟩, f2⟩ := Own.put (r := 1) (d' := .bool (decide ((K + 1) % 3 = 0))) (u' := .bool ((K + 1) % 3 == 0)) o1 hnd HL.out rfl trivial (fun w' => by rw [show ((K + 1) % 3 == 0) = decide ((K + 1) % 3 = 0) from rfl]; exact own_bool)
      obtain ⟨o3, b3, ⟨q3, p3⟩, f3⟩ := Own.put (r := 2) (d' := .int .i64 (K + 2)) (u' := .int .i64 (K + 2)) o2 hnd HL.out rfl trivial (fun w' => own_int (wf_of (by omega) (by omega)))
      have hkb3 := ((hkb.trans b1).trans b2).trans b3
      simp only [Nat.add_zero] at o1 b1 p1 f1 o2 b2 p2 f2 o3 b3 p3 f3 hkb3
      have Ho3 := Lib.hid o3
      have Hkb3 := Lib.hid hkb3
      have HMT := Lib.hid (fun w => mark_text (K + 3) w (by omega))
      have e3 : (K + 1) + 1 = K + 2 := by omega
      have e4 : (K + 2) + 1 = K + 3 := by omega
      clear hown0 o1 o2 o3 b1 b2 b3 hkb hkb3
      go_wp2_with fail
      refine (HMT.out _).mono ?_
      rintro e w4 ⟨rfl, hb4⟩
      have o4 := Ho3.out.below hb4
      have hkb4 := Hkb3.out.trans (KeptBut.of_below hb4)
      obtain ⟨o5, b5, ⟨q5, p5⟩, f5⟩ := Own.put (r := 3) (d' := .str (lawStr.mt (K + 3))) (u' := .string (lawStr.mt (K + 3))) o4 hnd HL.out rfl trivial (fun w' => own_str (mt_size _ (by omega)))
      have hkb5 := hkb4.trans b5
      obtain ⟨u6, F6, q6, _, o6, hs6, _, _, hd6, back6⟩ := Own.field (r := 4) (d := .sl 1 ks.length (skeys ks)) o5 hnd HL.out rfl
      obtain ⟨e6, r6, _, hF6⟩ := own_strs_row (ks := ks) o6
      have e5 : (K + 3) + 1 = K + 4 := by omega
      have HM := Lib.hid (lawStr.mark_any B ks.length u6 (K + 4) (scells ks) _ r6 (by omega) (by omega))
      have Ho6 := Lib.hid o6
      have Hback6 := Lib.hid back6
      have Hkb5 := Lib.hid hkb5
      have Hs6 := Lib.hid hs6
      have HF6 := Lib.hid hF6
      clear q1 p1 f1 q2 p2 f2 q3 p3 f3 HMT hb4 o4 hkb4 o5 b5 hkb5 o6 hs6 back6 r6 hF6 Ho3 Hkb3
      go_wp2_with fail
      refine HM.out.mono ?_
      rintro e w6 ⟨rfl, r7, g7⟩
      have kb7 := KeptBut.of_row g7 HF6.out
      have o7 := own_strs_again Ho6.out r7 (by rw [marks_length]) (fun x hx => by
        simp only [marks, List.mem_map, List.mem_range] at hx
        obtain ⟨m, hm, rfl⟩ := hx
        exact mt_size _ (by omega)) HF6.out
      have o8 := Hback6.out w6 _ kb7 o7
      have hkb8 := Hkb5.out.trans (kb7.mono Hs6.out)
      obtain ⟨u9, F9, q9, _, o9, hs9, _, _, hd9, back9⟩ := Own.field (r := 5) (d := .sl 6 kk.length (rows kk)) o8 hnd HL.out rfl
      have HPk := Lib.hid (HP.out f rfl B u9 kk F9 (K + 4 + ks.length) w6 o9 hd9 (by omega) (by omega))
      have Hback9 := Lib.hid back9
      have Hkb8 := Lib.hid hkb8
      have Hs9 := Lib.hid hs9
      clear HM r7 g7 kb7 o7 o8 hkb8 o9 hs9 back9 Ho6 Hback6 Hkb5 Hs6 HF6 q5 p5 f5 q6
      go_wp2_with fail
      refine HPk.out.mono ?_
      rintro e w10 ⟨rfl, o10, kb10⟩
      have o11 := Hback9.out w10 _ kb10 o10
      have Hkb11 := Lib.hid (Hkb8.out.trans (kb10.mono Hs9.out))
      have Ho11 : Hid (Own w10 B (f + 1 + 1) (.slice (some ⟨g, 0, none⟩) kids.length c) (.sl 6 kids.length (rows (markTs (kids.take (j + 1)) k ++ kids.drop (j + 1)))) F) := by
        unfold Hid
        rw [Hmark.out, rows_append, rows, hLL, hRR, markT, row, marks_length, markTs_length]
        exact o11
      clear HPk o10 kb10 o11 Hback9 Hkb8 Hs9 q9
      go_wp2_with fail
      go_roundw
      case rel => exact ⟨j + 1, by omega, by go_num, by rw [Hnext.out]; have := HK.out; congr 1; omega, Ho11.out, Hkb11.out⟩
      case measure => simp [intOf]; omega
    · obtain rfl : j = kids.length := by omega
      rw [List.take_of_length_le (Nat.le_refl _), List.drop_of_length_le (Nat.le_refl _), List.append_nil] at hown
      have Hown := Lib.hid hown
      have Hkb := Lib.hid hkb
      clear hown hkb
      rw [List.take_of_length_le (Nat.le_refl _)]
      go_wp2_with fail
      go_ret
      exact ⟨rfl, Hown.out, Hkb.out⟩
theorem mark_kids : ∀ f, MarkKids f
  | 0 => mark_kids_step (fun f' hf => by omega)
  | f + 1 => mark_kids_step (fun f' hf => by obtain rfl : f = f' := by omega
                                             exact mark_kids f)
end Go.Proofs.YtangdmjdjiddcaaDoor.tree
namespace Go.Proofs.YtangdmjdjiddcaaDoor.tree
open Go.ChangeShapes Go.WideShapes Go.ChangeAt Go.RowKit
open lawStr
set_option linter.unusedVariables false

/-- What markTree leaves of a tree that was handed in by value. -/
def topT : T → Int → T
  | .mk kd f n s ks kids, k => .mk kd f n s (marks k ks.length) (markTs kids (k + ks.length))
def topCost : T → Nat
  | .mk _ _ _ _ ks kids => ks.length + costs kids
theorem topCost_le (t : T) : topCost t ≤ 5 * weight t + 5 := by
  cases t with
  | mk kd f n s ks kids =>
    have h := cost_le (.mk kd f n s ks kids)
    rw [cost] at h
    rw [topCost]
    omega
theorem mark_tree {B f : Nat} (t : T) (vs : List Value) (F : List Nat) (k : Int) (w : World) (h : OwnS w B f vs (row t) F) (hnd : F.Nodup) (h0 : 0 ≤ k) (hk : k + topCost t ≤ 4611686018427387904) :
    Calls Tryd.prog 27 #[.agg vs.toArray, .int .i64 k] w fun e w' => e = .returned (.int .i64 (k + topCost t)) ∧ OwnS w' B f vs (row (topT t k)) F ∧ KeptBut F w w' := by
  obtain ⟨kd, fl, nm, s, ks, kids⟩ := t
  obtain ⟨v1, v2, F1, F2, rfl, wk, wn, ws, o1, o2, rfl, n1, n2, hd⟩ := owned_tree h hnd
  rw [topCost] at hk ⊢
  cases f with
  | zero => exact o1.elim
  | succ f =>
  have hb0 : Below w.heap.size w (w.alloc (.cells #[.int .i64 kd, .bool fl, .int .i64 nm, .string s, v1, v2] 35)) := (Below.refl _ _).alloc (Nat.le_refl _) _
  have h10 : (w.alloc (.cells #[.int .i64 kd, .bool fl, .int .i64 nm, .string s, v1, v2] 35)).heap[w.heap.size]? = some (.cells #[.int .i64 kd, .bool fl, .int .i64 nm, .string s, v1, v2] 35 (0, 0)) := heap_alloc_new w _
  have p4 := cell_of_row _ _ 4 _ _ _ h10
  have p4' : (w.alloc (.cells #[.int .i64 kd, .bool fl, .int .i64 nm, .string s, v1, v2] 35)).cell? ⟨w.heap.size, 4, none⟩ = some v1 := p4
  clear p4
  have o1' := o1.below hb0
  have o2' := o2.below hb0
  have rg1 := o1.range
  have rg2 := o2.range
  obtain ⟨e6, r6, _, hF6⟩ := own_strs_row (ks := ks) o1'
  have HM := Lib.hid (lawStr.mark_any B ks.length v1 k (scells ks) _ r6 h0 (by omega))
  have H10 := Lib.hid h10
  have Ho1 := Lib.hid o1'
  have Ho2 := Lib.hid o2'
  have Hw := Lib.hid (show (Lit.int .i64 kd).wf = true ∧ (Lit.int .i64 nm).wf = true ∧ s.size ≤ maxLen from ⟨wk, wn, ws⟩)
  have Hd := Lib.hid hd
  have Hb0 := Lib.hid (KeptBut.of_below (F := F1 ++ F2) hb0)
  have Hsz := Lib.hid (show w.heap.size < (w.alloc (.cells #[.int .i64 kd, .bool fl, .int .i64 nm, .string s, v1, v2] 35)).heap.size from heap_lt h10)
  have HF6 := Lib.hid hF6
  have Hr1 := Lib.hid rg1
  have Hr2 := Lib.hid rg2
  clear h hnd o1 o2 o1' o2' r6 h10 wk wn ws hd hb0 hF6 rg1 rg2
  go_enter Tryd.func27, Tryd.ntmps27
  go_wp2_with fail
  refine HM.out.mono ?_
  rintro e w2 ⟨rfl, r7, g7⟩
  have kb7 := KeptBut.of_row g7 HF6.out
  have o7 := own_strs_again Ho1.out r7 (by rw [marks_length]) (fun x hx => by
    simp only [marks, List.mem_map, List.mem_range] at hx
    obtain ⟨m, hm, rfl⟩ := hx
    exact mt_size _ (by omega)) HF6.out
  have o8 := Ho2.out.but kb7 (fun x hx hy => Hd.out x hy hx)
  have p5 : w2.cell? ⟨w.heap.size, 5, none⟩ = some v2 := by
    rw [cell_of_row w2 w.heap.size 5 _ _ _ ((kb7.block w.heap.size Hsz.out (fun hx => by have := (Hr1.out _ hx).2; omega)).trans H10.out)]
    rfl
  have HP := Lib.hid (mark_kids f B v2 kids F2 (k + ks.length) w2 o8 n2 (by omega) (by omega))
  have Ho7 := Lib.hid o7
  have Hkb7 := Lib.hid (Hb0.out.trans (kb7.mono (fun x hx => List.mem_append_left _ hx)))
  clear HM r7 g7 kb7 o7 o8 Ho1 Ho2 H10 Hb0 p4'
  go_wp2_with fail
  refine HP.out.mono ?_
  rintro e w3 ⟨rfl, o9, kb9⟩
  have Ho10 := Lib.hid (Ho7.out.but kb9 (fun x hx hy => Hd.out x hx hy))
  have Ho9 := Lib.hid o9
  have Hkb9 := Lib.hid (Hkb7.out.trans (kb9.mono (fun x hx => List.mem_append_right _ hx)))
  clear HP o9 kb9 Ho7 Hkb7 p5
  go_wp2_with fail
  go_ret
  refine ⟨ret_int (by simp; omega), ?_, Hkb9.out⟩
  rw [topT, row, marks_length, markTs_length]
  have h := OwnS.cons (own_int (w := w3) (B := B) (f := f) Hw.out.1) (OwnS.cons (own_bool (b := fl)) (OwnS.cons (own_int Hw.out.2.1) (OwnS.cons (own_str Hw.out.2.2) (OwnS.cons Ho10.out (OwnS.cons Ho9.out OwnS.nil)))))
  simpa [skeys] using h

end Go.Proofs.YtangdmjdjiddcaaDoor.tree
namespace Go.Proofs.YtangdmjdjiddcaaDoor.tree
open Go.ChangeShapes Go.WideShapes Go.ChangeAt Go.RowKit
open lawStr
set_option linter.unusedVariables false

/-- At a depth. -/
def HeldKids (f : Nat) : Prop := ∀ (A : Option Addr) (c : Nat) (kids : List T) (k : Int) (w : World), kids.length ≤ c → c ≤ maxLen → KidsAt w f A (markTs kids k) → 0 ≤ k → k + costs kids ≤ 4611686018427387904 →
  Calls Tryd.prog 29 #[.slice A kids.length c, .int .i64 k] w fun e w' => e = .returned (.int .i64 (k + costs kids)) ∧ Below w.heap.size w w'
set_option maxRecDepth 100000 in
set_option maxHeartbeats 8000000 in
theorem held_kids_step {f : Nat} (hP : ∀ f', f = f' + 1 → HeldKids f') : HeldKids f := by
  intro A c kids k w hc hm hk h0 hkk
  unfold maxLen at hm
  have Hk := Lib.hid hk
  have HP := Lib.hid hP
  clear hk hP
  go_enter Tryd.func29, Tryd.ntmps29
  go_wp2_with fail
  go_loopw [1, 5] (fun a i wr => ∃ (j : Nat), j ≤ kids.length ∧ i = .int .i64 j ∧ a = .int .i64 (k + costs (kids.take j)) ∧ Below w.heap.size w wr) (fun _ i _ => kids.length - (intOf i).toNat)
  case atStart => exact ⟨0, Nat.zero_le _, rfl, by simp [costs], Below.refl _ _⟩
  case round =>
    obtain ⟨j, hj, rfl, rfl, hbel⟩ := hrel
    by_cases hlt : j < kids.length
    · obtain ⟨g, o, rfl, hg, hkid⟩ := (Hk.out.below hbel) (by rw [markTs_length]; omega)
      have htake : kids.take (j + 1) = kids.take j ++ [kids[j]] := List.take_succ_eq_append_getElem hlt
      have hdrop : kids.drop j = kids[j] :: kids.drop (j + 1) := List.drop_eq_getElem_cons hlt
      have hsplit : kids = kids.take j ++ (kids[j] :: kids.drop (j + 1)) := by rw [← hdrop, List.take_append_drop]
      have hget : (markTs kids k)[j]? = some (markT kids[j] (k + costs (kids.take j))) := by
        have e : markTs kids k = markTs (kids.take j) k ++ (markT kids[j] (k + costs (kids.take j)) :: markTs (kids.drop (j + 1)) (k + costs (kids.take j) + cost kids[j])) := by
          conv => lhs; rw [hsplit]
          rw [markTs_append, markTs]
        rw [e, List.getElem?_append_right (by rw [markTs_length, List.length_take]; omega), markTs_length, List.length_take, show j - min j kids.length = 0 by omega]
        rfl
      have hall : costs kids = costs (kids.take j) + (cost kids[j] + costs (kids.drop (j + 1))) := by
        conv => lhs; rw [hsplit]
        rw [costs_append, costs]
      have hnext : costs (kids.take (j + 1)) = costs (kids.take j) + cost kids[j] := by rw [htake, costs_append]; simp [costs]
      obtain ⟨u0, u1, u2, u3, u4, u5, hsix, hls⟩ := hkid j _ hget
      have Hnext := Lib.hid hnext
      generalize costs (kids.take j) = C0 at *
      cases hx : kids[j] with
      | mk kd fl nm s ks kk =>
      rw [hx, markT] at hls
      rw [hx, cost] at hall Hnext
      obtain ⟨A1, c1, A2, c2, hv, _, _, hs3, hc1, hc2, hr, hks, hc3, hc4, f', hf, hkk2⟩ := open_tree hls
      rw [marks_length] at hv hc1 hr
      rw [markTs_length] at hv hc3
      simp only [List.cons.injEq, and_true] at hv
      obtain ⟨rfl, rfl, rfl, rfl, rfl, rfl⟩ := hv
      obtain ⟨q0, q1, q2, q3, q4, q5⟩ := hsix
      obtain ⟨K, hK⟩ : ∃ K, k + C0 = K := ⟨_, rfl⟩
      rw [hK] at q0 q1 q2 q3 hr hkk2 ⊢
      rw [show decide ((K + 1) % 3 = 0) = ((K + 1) % 3 == 0) from rfl] at q1
      have efl : (((K + 1) % 3 == 0) == ((K + 1) % 3 == 0)) = true := by simp
      have HK := Lib.hid hK
      have hbd : K + 4 + ks.length + costs kk ≤ 4611686018427387904 := by omega
      have hK0 : 0 ≤ K := by omega
      have e3 : (K + 1) + 1 = K + 2 := by omega
      have e4 : (K + 2) + 1 = K + 3 := by omega
      have e5 : (K + 3) + 1 = K + 4 := by omega
      have hmt := fun w => mark_text (K + 3) w (by omega)
      have HMT := Lib.hid hmt
      have HH := Lib.hid (fun w1 (hb : Below wr.heap.size wr w1) => lawStr.held_yes A1 ks.length c1 (K + 4) w1 (hr.below hb) (by omega) (by omega))
      have HR := Lib.hid (fun w1 (hb : Below wr.heap.size wr w1) => HP.out f' hf A2 c2 kk (K + 4 + ks.length) w1 hc3 hc4 (hkk2.below hb) (by omega) (by omega))
      have Hbel := Lib.hid hbel
      clear hkid hget hsplit hdrop htake hall hnext hls hr hkk2 hbel hks hc1 hc2 hc3 hc4 hmt hf hs3 hx hK
      go_wp2_with fail
      go_region_law (go_simp; go_at_call 55; refine (HMT.out _).mono ?_; rintro e w1 ⟨rfl, hb1⟩; have q3' : w1.cell? ⟨g, o + j * 6 + 3, none⟩ = some (.string (lawStr.mt (K + 3))) := (hb1.cell (p := ⟨g, o + j * 6 + 3, none⟩) hg).trans q3)
      all_goals
        have hb2 : Below wr.heap.size wr w1 := (Below.refl _ _).drew.trans (hb1.mono (Nat.le_refl _))
        have q4' : w1.cell? ⟨g, o + j * 6 + 4, none⟩ = some (.slice A1 ks.length c1) := (hb2.cell (p := ⟨g, o + j * 6 + 4, none⟩) hg).trans q4
        go_wp2_with fail
        refine (HH.out _ hb2).mono ?_
        rintro e w2 ⟨rfl, hb3⟩
        have hb4 : Below wr.heap.size wr w2 := hb2.trans (hb3.mono hb2.size)
        have q5' : w2.cell? ⟨g, o + j * 6 + 5, none⟩ = some (.slice A2 kk.length c2) := (hb4.cell (p := ⟨g, o + j * 6 + 5, none⟩) hg).trans q5
        go_wp2_with fail
        refine (HR.out _ hb4).mono ?_
        rintro e w3 ⟨rfl, hb5⟩
        have Hbel3 := Lib.hid (Hbel.out.trans ((hb4.trans (hb5.mono hb4.size)).mono Hbel.out.size))
        go_wp2_with fail
        go_roundw
        case rel => exact ⟨j + 1, by omega, by go_num, by rw [Hnext.out]; have := HK.out; congr 1; omega, Hbel3.out⟩
        case measure => simp [intOf]; omega
    · obtain rfl : j = kids.length := by omega
      rw [List.take_of_length_le (Nat.le_refl _)]
      have Hbel := Lib.hid hbel
      clear hbel
      go_wp2_with fail
      go_ret
      exact ⟨rfl, Hbel.out⟩
theorem held_kids : ∀ f, HeldKids f
  | 0 => held_kids_step (fun f' hf => by omega)
  | f + 1 => held_kids_step (fun f' hf => by obtain rfl : f = f' := by omega
                                             exact held_kids f)
theorem held_tree {f : Nat} (t : T) (vs : List Value) (k : Int) (w : World) (h : LiesS w f vs (row (topT t k))) (h0 : 0 ≤ k) (hk : k + topCost t ≤ 4611686018427387904) :
    Calls Tryd.prog 32 #[.agg vs.toArray, .int .i64 k] w fun e w' => e = .returned (.int .i64 (k + topCost t)) ∧ Below w.heap.size w w' := by
  obtain ⟨kd, fl, nm, s, ks, kids⟩ := t
  rw [topT] at h
  rw [topCost] at hk ⊢
  obtain ⟨A1, c1, A2, c2, rfl, _, _, _, hc1, hc2, hr, _, hc3, hc4, f', hf, hkk⟩ := open_tree h
  rw [marks_length] at hc1 hr h ⊢
  rw [markTs_length] at hc3 h ⊢
  have HB := Lib.hid (Box.new 35 w [.int .i64 kd, .bool fl, .int .i64 nm, .string s, .slice A1 ks.length c1, .slice A2 kids.length c2])
  have p4 := HB.out.cell (j := 4) rfl
  have HH := Lib.hid (lawStr.held_yes A1 ks.length c1 k _ (hr.below HB.out.1) (by omega) (by omega))
  have HR := Lib.hid (fun w1 (hb : Below w.heap.size w w1) => held_kids f' A2 c2 kids (k + ks.length) w1 hc3 hc4 (hkk.below hb) (by omega) (by omega))
  clear h hr hkk hc1 hc2 hc3 hc4 hf
  go_enter Tryd.func32, Tryd.ntmps32
  go_wp2_with fail
  refine HH.out.mono ?_
  rintro e w2 ⟨rfl, hb2⟩
  have HB2 := Lib.hid (HB.out.below hb2)
  have p5 := HB2.out.cell (j := 5) rfl
  clear HH HB hb2 p4
  go_wp2_with fail
  refine (HR.out _ HB2.out.1).mono ?_
  rintro e w3 ⟨rfl, hb3⟩
  have HB3 := Lib.hid (HB2.out.below hb3)
  clear HR hb3 HB2 p5
  go_wp2_with fail
  go_ret
  exact ⟨ret_int (by simp; omega), HB3.out.1⟩
end Go.Proofs.YtangdmjdjiddcaaDoor.tree
namespace Go.Proofs.YtangdmjdjiddcaaDoor.tree
open Go Go.RowKit
set_option linter.unusedVariables false

/-- Six of the cells of kids. -/
theorem kid_cells {w : World} {f : Nat} {xs : List Value} {kids : List T} (h : LiesS w f xs (rows kids)) {i : Nat} (hi : i < kids.length) :
    ∃ us : List Value, us.length = 6 ∧ (∀ j u, us[j]? = some u → xs[i * 6 + j]? = some u) ∧ LiesS w f us (row kids[i]) := by
  have hl := h.1
  rw [rows_length] at hl
  have hb : ∀ j, j < 6 → i * 6 + j < xs.length := fun j hj => by omega
  refine ⟨(xs.drop (i * 6)).take 6, by rw [List.length_take, List.length_drop]; omega, fun j u hu => ?_, ⟨by rw [List.length_take, List.length_drop, row_length]; omega, fun j u d hu hd => ?_⟩⟩
  · have hj : j < 6 := by have := (List.getElem?_eq_some_iff.1 hu).1; rw [List.length_take] at this; omega
    rw [List.getElem?_take_of_lt hj, List.getElem?_drop] at hu
    exact hu
  · have hj : j < 6 := by have := (List.getElem?_eq_some_iff.1 hd).1; rw [row_length] at this; exact this
    rw [List.getElem?_take_of_lt hj, List.getElem?_drop] at hu
    exact h.2 (i * 6 + j) u d hu (by rw [rows_get kids i j hi hj]; exact hd)

theorem kidIts_mem {g : Nat} {kids : List T} : ∀ {n : Nat} {it : It}, n ≤ kids.length → it ∈ kidIts g kids n → ∃ i, ∃ h : i < kids.length, i < n ∧ it = (g, i * 6, kids[i])
  | n + 1, it, hn, h => by
    rcases List.mem_cons.1 h with rfl | h
    · exact ⟨n, by omega, by omega, by simp [List.getD, show n < kids.length by omega]⟩
    · obtain ⟨i, h1, h2, h3⟩ := kidIts_mem (by omega) h
      exact ⟨i, h1, by omega, h3⟩
theorem kidIts_apart (g : Nat) (kids : List T) : ∀ n, n ≤ kids.length → (kidIts g kids n).Pairwise Apart
  | 0, _ => List.Pairwise.nil
  | n + 1, hn => by
    refine List.Pairwise.cons (fun it hit _ => ?_) (kidIts_apart g kids n (by omega))
    obtain ⟨i, _, h2, rfl⟩ := kidIts_mem (by omega) hit
    right
    show i * 6 + 6 ≤ n * 6
    omega

theorem below_of_ne {w wr W2 : World} {B : Nat} (h : Below B w wr) (hk : Below wr.heap.size wr W2) (hB : B ≤ wr.heap.size) : Below B w W2 := h.trans (hk.mono hB)

/-- A round: the top's two lists are made anew (vk, v2), its kids pushed. -/
theorem cp_step {w w1 wr W2 W3 W5 W6 wD : World} {f : Nat} {t : T} {sb1 : Option Nat} {eP eS eT resT : TypeId} {zr : Array Value} {gs cap g o : Nat} {k : Int} {fl : Bool} {n : Int} {s : ByteArray} {ks : List ByteArray} {kids : List T} {todo : List It} {vk v2 r' : Value} {xs : List Value} {u4 u5 : Value} {cur : Array Value} {e : TypeId}
    (hC : CpS w w1 f t sb1 eP resT zr (.slice (some ⟨gs, 0, none⟩) (todo.length + 1) cap) wr ((g, o, .mk k fl n s ks kids) :: todo))
    (hg : wr.heap[g]? = some (.cells cur e (0, 0))) (hus : ∀ j u, [Value.int .i64 k, .bool fl, .int .i64 n, .string s, u4, u5][j]? = some u → cur[o + j]? = some u)
    (wk : (Lit.int .i64 k).wf = true) (wn : (Lit.int .i64 n).wf = true) (ws : s.size ≤ maxLen) (wks : ∀ x ∈ ks, x.size ≤ maxLen)
    (hb2 : Below wr.heap.size wr W2) (hks : W2.ownsRow wr.heap.size eS 1 vk ks.length (scells ks)) (hW3 : W3 = W2.setCell ⟨g, o + 4, none⟩ vk)
    (hb5 : Below W3.heap.size W3 W5) (hkids : W5.ownsRow W3.heap.size eT 6 v2 kids.length xs) (hxs : LiesS w f xs (rows kids)) (hW6 : W6 = W5.setCell ⟨g, o + 5, none⟩ v2)
    {gk : Nat} (hgk : ∀ b, v2.ownBlock = some b → b = gk) (hgk0 : kids ≠ [] → v2.ownBlock = some gk)
    (hI : InS w W6 gs gk kids todo eP kids.length r' wD) :
    CpS w w1 f t sb1 eP resT zr r' wD (kidIts gk kids kids.length ++ todo) := by
  obtain ⟨hg1, hg2, hg3, _⟩ := hC.it _ List.mem_cons_self
  have hglt := heap_lt hg
  have hgsg : gs ≠ g := fun e => hg3 (by rw [e]; rfl)
  obtain ⟨hgs1, hgs2⟩ := hC.own.lt gs rfl
  have hs3 : W3.heap.size = W2.heap.size := by rw [hW3]; simp
  have hs6 : W6.heap.size = W5.heap.size := by rw [hW6]; simp
  have hs23 := hb2.size
  have hs35 := hb5.size
  -- blocks that lay, through the round
  have hold : ∀ b, b < wr.heap.size → b ≠ g → W6.heap[b]? = wr.heap[b]? := fun b hb hne => by
    rw [hW6, Below.heap_setCell _ _ _ _ hne, hb5.block b (by omega), hW3, Below.heap_setCell _ _ _ _ hne, hb2.block b hb]
  have hg6 : W6.heap[g]? = some (.cells ((cur.setIfInBounds (o + 4) vk).setIfInBounds (o + 5) v2) e (0, 0)) := by
    rw [hW6]
    refine heap_setCell_same _ _ _ _ _ _ ?_
    rw [hb5.block g (by omega), hW3]
    refine heap_setCell_same _ _ _ _ _ _ ?_
    rw [hb2.block g hglt]
    exact hg
  have hbelow6 : Below w.heap.size wr W6 := by
    rw [hW6]
    refine Below.setCell ?_ (p := ⟨g, o + 5, none⟩) hg1 _
    refine Below.trans (Below.setCell (hb2.mono hC.bel.size) (p := ⟨g, o + 4, none⟩) hg1 vk) ?_
    rw [← hW3]
    exact hb5.mono (by have := hC.bel.size; omega)
  have hks6 : W6.ownsRow wr.heap.size eS 1 vk ks.length (scells ks) := by
    rw [hW6]
    refine ownsRow_setCell_below (own_below' (w := W3) ?_ hb5) (a := ⟨g, o + 5, none⟩) hglt v2
    rw [hW3]
    exact ownsRow_setCell_below hks (a := ⟨g, o + 4, none⟩) hglt vk
  have hkids6 : W6.ownsRow W3.heap.size eT 6 v2 kids.length xs := by
    rw [hW6]
    exact ownsRow_setCell_below hkids (a := ⟨g, o + 5, none⟩) (by show g < _; omega) v2
  have hkids6' : W6.ownsRow wr.heap.size eT 6 v2 kids.length xs := own_base hkids6 (by omega)
  -- to the end of the pushes
  have toD : ∀ {eX : TypeId} {size : Nat} {v : Value} {m : Nat} {ys : List Value}, W6.ownsRow wr.heap.size eX size v m ys → wD.ownsRow wr.heap.size eX size v m ys := fun {eX size v m ys} h => by
    refine ⟨h.1, ?_⟩
    rcases h.2 with h0 | ⟨b, cap, c, h1, h2, h3, h4⟩
    · exact .inl h0
    · exact .inr ⟨b, cap, c, h1, h2, (hI.keep b (heap_lt h3) (by omega)).trans h3, h4⟩
  have hvkb : ∀ b, vk.ownBlock = some b → b < W3.heap.size := fun b hb => by
    have := (hks.lt b hb).2
    omega
  have hv2b : ∀ b, v2.ownBlock = some b → W3.heap.size ≤ b ∧ b < W6.heap.size := fun b hb => hkids6.lt b hb
  have hob : ∀ b, b < W6.heap.size → b ≠ gs → r'.ownBlock ≠ some b := fun b hb hne e => by
    rcases hI.ob with h | ⟨b', h, h'⟩
    · rw [h] at e; injection e with e; exact hne e.symm
    · rw [h] at e; injection e with e; omega
  have hob6 : ∀ b, r'.ownBlock = some b → b ≠ g := fun b hb e => by
    subst e
    exact hob b (by omega) (fun e => hgsg e.symm) hb
  obtain ⟨hap, happ⟩ := List.pairwise_cons.1 hC.apart
  have hlow : ∀ it ∈ todo, it.1 < wr.heap.size := fun it hit => by
    obtain ⟨_, _, _, c, e', us, h1, _⟩ := hC.it it (List.mem_cons_of_mem _ hit)
    exact heap_lt h1
  refine ⟨?_, fun it hit => ?_, ?_, ?_, ?_, ?_, ?_, fun it hit => ?_, fun w' hw' => hC.wand w' ?_⟩
  · have h := hI.own
    rw [List.length_append, kidIts_length]
    exact h
  · rcases List.mem_append.1 hit with hit | hit
    · obtain ⟨i, hi, _, rfl⟩ := kidIts_mem (Nat.le_refl _) hit
      have hne : kids ≠ [] := fun e => by rw [e] at hi; simp at hi
      have hb := hgk0 hne
      obtain ⟨h1, h2⟩ := hv2b gk hb
      have hws := hC.bel.size
      have hsz := hC.sz
      refine ⟨by show w.heap.size ≤ gk; omega, by show gk ≠ _; omega, hob gk h2 (by omega), ?_⟩
      obtain ⟨cap', c', rfl, h3, h4, h5, h6, h7, h8⟩ := own_block hkids6 hb
      obtain ⟨us, hu1, hu2, hu3⟩ := kid_cells hxs hi
      refine ⟨c', eT, us, (hI.keep gk h2 (by omega)).trans h4, hu1, fun j u hu => ?_, hu3⟩
      have hj := hu2 j u hu
      rw [← h8, List.getElem?_take] at hj
      split at hj
      · simpa using hj
      · cases hj
    · obtain ⟨h1, h2, h3, c, e', us, h4, h5, h6, h7⟩ := hC.it it (List.mem_cons_of_mem _ hit)
      have hlt := hlow it hit
      have hgsi : it.1 ≠ gs := fun e => h3 (by rw [e]; rfl)
      refine ⟨h1, h2, hob it.1 (by omega) hgsi, ?_⟩
      have hk := hI.keep it.1 (by omega) hgsi
      by_cases hig : it.1 = g
      · have ha := hap it hit hig.symm
        rw [hig] at hk h4
        rw [hg] at h4
        injection h4 with h4
        injection h4 with e1 e2 e3
        subst e1 e2
        refine ⟨_, _, us, by rw [hig]; exact hk.trans hg6, h5, fun j u hu => ?_, h7⟩
        have hj : j < 6 := by have := (List.getElem?_eq_some_iff.1 hu).1; omega
        simp only at ha
        rw [Array.getElem?_setIfInBounds_ne (by omega), Array.getElem?_setIfInBounds_ne (by omega)]
        exact h6 j u hu
      · exact ⟨c, e', us, (hk.trans (hold it.1 hlt hig)).trans h4, h5, h6, h7⟩
  · refine List.pairwise_append.2 ⟨kidIts_apart gk kids _ (Nat.le_refl _), happ, fun a ha b hb e => ?_⟩
    obtain ⟨i, hi, _, rfl⟩ := kidIts_mem (Nat.le_refl _) ha
    have hne : kids ≠ [] := fun e => by rw [e] at hi; simp at hi
    have h1 := (hv2b gk (hgk0 hne)).1
    have h2 := hlow b hb
    have h3 : gk = b.1 := e
    omega
  · refine (hC.bel.trans hbelow6).trans ⟨hI.os, hI.tape, hI.output, hI.size, fun b hb => hI.keep b ?_ ?_⟩
    · have := hC.bel.size; omega
    · omega
  · rw [hI.keep _ (by have := hC.sz; omega) (by omega), hold _ (by have := hC.sz; omega) (fun e => hg2 e.symm)]
    exact hC.res
  · rw [sizesI_append, sizesI_kids gk kids _ (Nat.le_refl _), List.take_of_length_le (Nat.le_refl _)]
    have h := hC.bd
    rw [sizesI] at h
    simp only [size] at h
    omega
  · have h1 := hC.sz
    have h2 := hI.size
    omega
  · rcases List.mem_append.1 hit with hit | hit
    · obtain ⟨i, hi, _, rfl⟩ := kidIts_mem (Nat.le_refl _) hit
      have h1 := hC.wt _ List.mem_cons_self
      have h2 := weights_le_mem (List.getElem_mem hi)
      simp only [weight] at h1
      show weight kids[i] ≤ _
      omega
    · exact hC.wt it (List.mem_cons_of_mem _ hit)
  · refine fin_step (sb' := r'.ownBlock) (e1 := eS) (e2 := eT) (xs := xs) hC.bel.size (Nat.le_trans (by omega) hI.size) (hI.os.trans hbelow6.os) (hI.tape.trans hbelow6.tape) (hI.output.trans hbelow6.output)
      (fun b hb hne hsb => ?_) hg ((hI.keep g (by omega) (fun e => hgsg e.symm)).trans hg6) (fun e => hgsg (by injection e with e; exact e.symm)) (hus 0 _ rfl) (hus 1 _ rfl) (hus 2 _ rfl) (hus 3 _ rfl) ?_ wk wn ws wks (toD hks6) (fun b hb => ⟨?_, ?_⟩) (toD hkids6') (fun b hb => ?_) ?_ (fun it hit => ⟨hlow it hit, fun hig => ?_⟩) hgk hgk0 hw'
    · have hbgs : b ≠ gs := fun e => hsb (by rw [e]; rfl)
      rw [hI.keep b (by omega) hbgs, hold b hb hne]
    · exact (Array.getElem?_eq_some_iff.1 (hus 5 _ rfl)).1
    · have h1 := (hks.lt b hb).1
      have h2 := hvkb b hb
      exact fun e => hob b (by omega) (by omega) e.symm
    · intro e
      have h1 := (hv2b b e).1
      have h2 := hvkb b hb
      omega
    · have h1 := hv2b b hb
      exact fun e => hob b h1.2 (by omega) e.symm
    · rcases hI.ob with h | ⟨b, h, h'⟩
      · exact .inl h
      · exact .inr ⟨b, h, by omega⟩
    · have ha := hap it hit hig.symm
      simp only at ha
      omega
theorem rd_one (w : World) (u : Value) (e : TypeId) : Rd (w.alloc (.cells #[u] e)) (some ⟨w.heap.size, 0, none⟩) 1 [u] := by
  refine ⟨rfl, fun _ => ⟨w.heap.size, 0, rfl, by simp, fun j hj u' hu => ?_⟩⟩
  rw [cell_of_row _ w.heap.size (0 + j) #[u] e (0, 0) (heap_alloc_new w _)]
  simpa using hu
/-- One kid is pushed. -/
theorem in_step {w W6 wD W8 : World} {gs gk : Nat} {kids : List T} {todo : List It} {eP : TypeId} {j : Nat} {r r' : Value} {o : Obj} (h : InS w W6 gs gk kids todo eP j r wD)
    (hown : W8.ownsRow (w.heap.size + 2) eP 1 r' (j + todo.length + 1) (((kidIts gk kids j ++ todo).map ptr).reverse ++ [.pointer (some ⟨gk, j * 6, none⟩)])) (hgr : (wD.alloc o).grownBy W8 r.ownBlock) (hat : r'.ownBlock = r.ownBlock ∨ r'.ownBlock = some (wD.alloc o).heap.size) :
    InS w W6 gs gk kids todo eP (j + 1) r' W8 := by
  have hs := h.size
  have hsa : (wD.alloc o).heap.size = wD.heap.size + 1 := by simp
  refine ⟨?_, hgr.os.trans h.os, hgr.tape.trans h.tape, hgr.output.trans h.output, by have := hgr.size; omega, fun b hb hne => ?_, ?_⟩
  · have e1 : ((kidIts gk kids (j + 1) ++ todo).map ptr).reverse = ((kidIts gk kids j ++ todo).map ptr).reverse ++ [.pointer (some ⟨gk, j * 6, none⟩)] := by
      rw [kidIts, List.cons_append, List.map_cons, List.reverse_cons]
      rfl
    rw [e1, show j + 1 + todo.length = j + todo.length + 1 by omega]
    exact hown
  · rw [hgr.block b (by omega) (fun e => ?_), Below.heap_alloc _ _ _ (by omega)]
    · exact h.keep b hb hne
    · rcases h.ob with h1 | ⟨b', h1, h2⟩
      · rw [h1] at e; injection e with e; exact hne e
      · rw [h1] at e; injection e with e; omega
  · rcases hat with h1 | h1
    · rw [h1]; exact h.ob
    · exact .inr ⟨_, h1, by omega⟩
end Go.Proofs.YtangdmjdjiddcaaDoor.tree
