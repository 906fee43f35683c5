/- Merged: TrEq TrMark TrMarkT TrHeld CellA TrInfo SameB. -/
import Derived.Test.YtllfhnlhfnimbaaGA1
import Derived.Test.YtllfhnlhfnimbaaGA0
import Derived.Test.YtllfhnlhfnimbaaGA2
import Derived.Maps.AppendAt
import Derived.Deep.WholeRow
import Derived.Test.YtllfhnlhfnimbaaRows
import Derived.ProofKit
import Derived.OpenShut
namespace Go.Proofs.Ytllfhnlhfnimbaa.tree
open Go.ChangeShapes Go.WideShapes Go.ChangeAt Go.RowKit
set_option linter.unusedVariables false

/-- At a depth. -/
def EqKids (f : Nat) : Prop := ∀ (A1 A2 : Option Addr) (c1 c2 : Nat) (kids : List T) (w : World), kids.length ≤ c1 → c1 ≤ maxLen → kids.length ≤ c2 → c2 ≤ maxLen → KidsAt w f A1 kids → KidsAt w f A2 kids →
  Calls Try.prog 18 #[.slice A1 kids.length c1, .slice A2 kids.length c2] w fun e w' => e = .returned (.bool true) ∧ Below w.heap.size w w'
theorem eq_of {f : Nat} (hP : EqKids f) (t : T) (vs us : List Value) (w : World) (h1 : LiesS w (f + 1) vs (row t)) (h2 : LiesS w (f + 1) us (row t)) :
    Calls Try.prog 11 #[.agg vs.toArray, .agg us.toArray] w fun e w' => e = .returned (.bool true) ∧ Below w.heap.size w w' := by
  obtain ⟨k, fl, n, s, ks, kids⟩ := t
  obtain ⟨A1, c1, A2, c2, rfl, _, _, hs, hc1, hc2, hr, hks, hc3, hc4, f', hf, hk⟩ := open_tree h1
  obtain rfl : f = f' := by omega
  obtain ⟨B1, d1, B2, d2, rfl, _, _, _, hd1, hd2, hr', hks', hd3, hd4, f', hf, hk'⟩ := open_tree h2
  obtain rfl : f = f' := by omega
  clear h1 h2 hf
  have HB1 := Lib.hid (Box.new 29 w [.int .i64 k, .bool fl, .int .i64 n, .string s, .slice A1 ks.length c1, .slice A2 kids.length c2])
  have HB2 := Lib.hid (HB1.out.below ((Below.refl _ _).alloc (Nat.le_refl _) (.cells #[.int .i64 k, .bool fl, .int .i64 n, .string s, .slice B1 ks.length d1, .slice B2 kids.length d2] 29)))
  have HB3 := Lib.hid (Box.new 29 (w.alloc (.cells #[.int .i64 k, .bool fl, .int .i64 n, .string s, .slice A1 ks.length c1, .slice A2 kids.length c2] 29)) [.int .i64 k, .bool fl, .int .i64 n, .string s, .slice B1 ks.length d1, .slice B2 kids.length d2])
  have hsz : (w.alloc (.cells #[.int .i64 k, .bool fl, .int .i64 n, .string s, .slice A1 ks.length c1, .slice A2 kids.length c2] 29)).heap.size = w.heap.size + 1 := by simp
  have HE := Lib.hid (fun w1 (hb : Below w.heap.size w w1) => lawStr.eq_yes A1 B1 ks.length c1 d1 ks w1 (by omega) rfl (hr.below hb) (hr'.below hb))
  have HK := Lib.hid (fun w1 (hb : Below w.heap.size w w1) => hP A2 B2 c2 d2 kids w1 hc3 hc4 hd3 hd4 (hk.below hb) (hk'.below hb))
  have p0 := HB2.out.cell (j := 0) rfl
  have p1 := HB2.out.cell (j := 1) rfl
  have p2 := HB2.out.cell (j := 2) rfl
  have p3 := HB2.out.cell (j := 3) rfl
  have p4 := HB2.out.cell (j := 4) rfl
  have p5 := HB2.out.cell (j := 5) rfl
  have q0 := HB3.out.cell (j := 0) rfl
  have q1 := HB3.out.cell (j := 1) rfl
  have q2 := HB3.out.cell (j := 2) rfl
  have q3 := HB3.out.cell (j := 3) rfl
  have q4 := HB3.out.cell (j := 4) rfl
  have q5 := HB3.out.cell (j := 5) rfl
  rw [hsz] at q0 q1 q2 q3 q4 q5
  have hq := HB3.out.2
  have hbb := HB2.out.1
  have Hp := Lib.hid HB2.out.2
  rw [hsz] at hq
  have Hq := Lib.hid hq
  clear hr hr' hks hks' hk hk' hP hc1 hc2 hc3 hc4 hd1 hd2 hd3 hd4 HB1 HB3 hq
  have Hbb := Lib.hid hbb
  clear hbb HB2
  go_enter Try.func11, Try.ntmps11
  go_wp2_with fail
  refine (HE.out _ Hbb.out).mono ?_
  rintro e w1 ⟨rfl, q, rfl⟩
  go_wp2_with fail
  refine (HK.out _ (below_drewN Hbb.out q)).mono ?_
  rintro e w1 ⟨rfl, hb1⟩
  have Hb1 := Lib.hid ((below_drewN Hbb.out q).trans (hb1.mono (below_drewN Hbb.out q).size))
  clear hb1
  go_wp2_with fail
  go_ret
  exact ⟨rfl, Hb1.out⟩
theorem eq_kids_step {f : Nat} (hE : ∀ (t : T) (vs us : List Value) (w : World), LiesS w f vs (row t) → LiesS w f us (row t) →
    Calls Try.prog 11 #[.agg vs.toArray, .agg us.toArray] w fun e w' => e = .returned (.bool true) ∧ Below w.heap.size w w') : EqKids f := by
  intro A1 A2 c1 c2 kids w hc1 hm1 hc2 hm2 hk1 hk2
  unfold maxLen at hm1 hm2
  have Hk1 := Lib.hid hk1
  have Hk2 := Lib.hid hk2
  have HE := Lib.hid hE
  clear hk1 hk2 hE
  go_enter Try.func18, Try.ntmps18
  go_wp2_with fail
  go_loopw [5] (fun i wr => ∃ (j : Nat), j ≤ kids.length ∧ i = .int .i64 j ∧ Below w.heap.size w wr) (fun i _ => kids.length - (intOf i).toNat)
  case atStart => exact ⟨0, Nat.zero_le _, rfl, Below.refl _ _⟩
  case round =>
    obtain ⟨j, hj, rfl, hbel⟩ := hrel
    by_cases hlt : j < kids.length
    · obtain ⟨g1, o1, rfl, hg1, hkid1⟩ := (Hk1.out.below hbel) (by omega)
      obtain ⟨g2, o2, rfl, hg2, hkid2⟩ := (Hk2.out.below hbel) (by omega)
      obtain ⟨u0, u1, u2, u3, u4, u5, ⟨q0, q1, q2, q3, q4, q5⟩, hls1⟩ := hkid1 j kids[j] (List.getElem?_eq_getElem hlt)
      obtain ⟨v0, v1, v2, v3, v4, v5, ⟨r0, r1, r2, r3, r4, r5⟩, hls2⟩ := hkid2 j kids[j] (List.getElem?_eq_getElem hlt)
      have HC := Lib.hid (fun w1 (hb : Below wr.heap.size wr w1) => HE.out kids[j] _ _ w1 (hls1.below hb) (hls2.below hb))
      have Hbel := Lib.hid hbel
      clear hkid1 hkid2 hls1 hls2 hbel hg1 hg2
      go_wp2_with fail
      go_region_law (go_simp; go_at_call 11; refine (HC.out _ (Below.refl _ _).drew).mono ?_; rintro e w1 ⟨rfl, hb1⟩)
      all_goals
        have hbel1 := Hbel.out.trans (((Below.refl _ _).drew.trans (hb1.mono (Nat.le_refl _))).mono Hbel.out.size)
        clear hb1 q0 q1 q2 q3 q4 q5 r0 r1 r2 r3 r4 r5
        go_wp2_with fail
        go_roundw
        case rel => exact ⟨j + 1, by omega, by go_num, hbel1⟩
        case measure => simp [intOf]; omega
    · obtain rfl : j = kids.length := by omega
      have Hbel := Lib.hid hbel
      clear hbel
      go_wp2_with fail
      go_ret
      exact ⟨rfl, Hbel.out⟩
theorem eq_kids : ∀ f, EqKids f
  | 0 => eq_kids_step (fun t vs us w h => by
      obtain ⟨k, fl, n, s, ks, kids⟩ := t
      obtain ⟨_, _, _, _, _, _, _, _, _, _, _, _, _, _, f', hf, _⟩ := open_tree h
      omega)
  | f + 1 => eq_kids_step (fun t vs us w h1 h2 => eq_of (eq_kids f) t vs us w h1 h2)
/-- eqTree on two equal trees in memory. -/
theorem eq_tree {f : Nat} (t : T) (vs us : List Value) (w : World) (h1 : LiesS w f vs (row t)) (h2 : LiesS w f us (row t)) :
    Calls Try.prog 11 #[.agg vs.toArray, .agg us.toArray] w fun e w' => e = .returned (.bool true) ∧ Below w.heap.size w w' :=
  eq_of (eq_kids f) t vs us w (h1.deeper (Nat.le_succ f)) (h2.deeper (Nat.le_succ f))
end Go.Proofs.Ytllfhnlhfnimbaa.tree
namespace Go.Proofs.Ytllfhnlhfnimbaa.tree
open Go.ChangeShapes Go.WideShapes Go.ChangeAt Go.RowKit
open lawStr
set_option linter.unusedVariables false

mutual
def cost : T → Nat
  | .mk _ _ _ _ ks kids => 4 + ks.length + costs kids
def costs : List T → Nat
  | [] => 0
  | t :: r => cost t + costs r
end
theorem costs_append : ∀ a b : List T, costs (a ++ b) = costs a + costs b
  | [], b => by simp [costs]
  | t :: r, b => by rw [List.cons_append, costs, costs, costs_append r b]; omega
theorem cost_le : ∀ t, cost t ≤ 4 + 5 * weight t := by
  refine T.ind fun k f n s ks kids ih => ?_
  rw [cost, weight]
  have : costs kids ≤ 5 * (kids.length + weights kids) := by
    clear f n s ks k
    induction kids with
    | nil => simp [costs]
    | cons a r ih2 =>
      rw [costs, weights, List.length_cons]
      have h1 := ih a List.mem_cons_self
      have h2 := ih2 (fun x hx => ih x (List.mem_cons_of_mem _ hx))
      omega
  omega
mutual
def markT : T → Int → T
  | .mk _ _ _ _ ks kids, k => .mk k (decide ((k + 1) % 3 = 0)) (k + 2) (lawStr.mt (k + 3)) (marks (k + 4) ks.length) (markTs kids (k + 4 + ks.length))
def markTs : List T → Int → List T
  | [], _ => []
  | t :: r, k => markT t k :: markTs r (k + cost t)
end
theorem markTs_length : ∀ (l : List T) (k : Int), (markTs l k).length = l.length
  | [], _ => rfl
  | t :: r, k => by rw [markTs, List.length_cons, List.length_cons, markTs_length r]
theorem markTs_append : ∀ (a b : List T) (k : Int), markTs (a ++ b) k = markTs a k ++ markTs b (k + costs a)
  | [], b, k => by simp [markTs, costs]
  | t :: r, b, k => by
    rw [List.cons_append, markTs, markTs, markTs_append r b, costs, List.cons_append]
    congr 3
    omega
theorem dg_length : ∀ (f m : Nat) (acc : List UInt8), (dg f m acc).length ≤ f + acc.length
  | 0, m, acc => by simp [dg]
  | f + 1, m, acc => by
    rw [dg]
    split
    · omega
    · have h := dg_length f (m / 10) (UInt8.ofNat (48 + m % 10) :: acc)
      rw [List.length_cons] at h
      omega
theorem mt_size (m : Int) (h : m ≤ 4611686018427387904) : (lawStr.mt m).size ≤ maxLen := by
  unfold lawStr.mt maxLen
  split
  · decide
  · show (109 :: dg m.toNat m.toNat []).toArray.size ≤ _
    rw [List.size_toArray, List.length_cons]
    have := dg_length m.toNat m.toNat []
    simp at this
    omega
theorem wf_of {k : Int} (h0 : -9223372036854775808 ≤ k) (h1 : k ≤ 9223372036854775807) : (Lit.int .i64 k).wf = true := by
  have e1 : IntKind.i64.min = -9223372036854775808 := rfl
  have e2 : IntKind.i64.max = 9223372036854775807 := rfl
  simp [Lit.wf, e1, e2]
  omega
/-- At a depth. -/
def MarkKids (f : Nat) : Prop := ∀ (B : Nat) (v : Value) (kids : List T) (F : List Nat) (k : Int) (w : World), Own w B (f + 1) v (.sl 6 kids.length (rows kids)) F → F.Nodup → 0 ≤ k → k + costs kids ≤ 4611686018427387904 →
  Calls Try.prog 19 #[v, .int .i64 k] w fun e w' => e = .returned (.int .i64 (k + costs kids)) ∧ Own w' B (f + 1) v (.sl 6 kids.length (rows (markTs kids k))) F ∧ KeptBut F w w'

theorem mark_kids_nil (f B : Nat) (k : Int) (w : World) (h0 : 0 ≤ k) (hk : k ≤ 4611686018427387904) :
    Calls Try.prog 19 #[.slice none 0 0, .int .i64 k] w fun e w' => e = .returned (.int .i64 k) ∧ w' = w := by
  go_enter Try.func19, Try.ntmps19
  go_wp2_with fail
  refine wp_loop_rounds 1 ?_
  rw [rounds_succ]
  go_wp2_with fail
  go_ret
  exact ⟨rfl, rfl⟩

set_option maxRecDepth 100000 in
set_option maxHeartbeats 8000000 in
theorem mark_kids_step {f : Nat} (hP : ∀ f', f = f' + 1 → MarkKids f') : MarkKids f := by
  intro B v kids F k w hown hnd h0 hk
  have hown' := hown
  obtain ⟨hl, ⟨rfl, hn, rfl⟩ | ⟨g, c, cur, e, Fs, rfl, h1, h2, h3, h4, hz, hF, h5, h6⟩⟩ := hown'
  · have : kids = [] := List.eq_nil_of_length_eq_zero hn
    subst this
    rw [costs] at hk ⊢
    refine (mark_kids_nil f B k w h0 (by omega)).mono ?_
    rintro e w' ⟨rfl, rfl⟩
    exact ⟨by simp, by simpa [markTs] using hown, KeptBut.refl _ _⟩
  have hcm : kids.length ≤ 9223372036854775807 := by unfold maxLen at h2; omega
  clear hl h3 h4 hz hF h5 h6 cur e Fs
  have HP := Lib.hid hP
  have Hown := Lib.hid hown
  clear hown hP
  go_enter Try.func19, Try.ntmps19
  go_wp2_with fail
  go_loopw [1, 5] (fun a i wr => ∃ (j : Nat), j ≤ kids.length ∧ i = .int .i64 j ∧ a = .int .i64 (k + costs (kids.take j)) ∧ Own wr B (f + 1) (.slice (some ⟨g, 0, none⟩) kids.length c) (.sl 6 kids.length (rows (markTs (kids.take j) k ++ kids.drop j))) F ∧ KeptBut F w wr) (fun _ i _ => kids.length - (intOf i).toNat)
  case atStart => exact ⟨0, Nat.zero_le _, rfl, by simp [costs], by simpa [markTs] using Hown.out, KeptBut.refl _ _⟩
  case round =>
    clear Hown
    obtain ⟨j, hj, rfl, rfl, hown, hkb⟩ := hrel
    by_cases hlt : j < kids.length
    · obtain ⟨kd, fl, nm, s, ks, kk, hx⟩ : ∃ kd fl nm s ks kk, kids[j] = T.mk kd fl nm s ks kk := by
        cases hx : kids[j] with
        | mk kd fl nm s ks kk => exact ⟨kd, fl, nm, s, ks, kk, rfl⟩
      have hdrop : kids.drop j = kids[j] :: kids.drop (j + 1) := List.drop_eq_getElem_cons hlt
      have htake : kids.take (j + 1) = kids.take j ++ [kids[j]] := List.take_succ_eq_append_getElem hlt
      have hall : costs kids = costs (kids.take j) + (costs [kids[j]] + costs (kids.drop (j + 1))) := by
        rw [← costs_append, ← costs_append, List.singleton_append, ← hdrop, List.take_append_drop]
      have hone : costs [kids[j]] = 4 + ks.length + costs kk := by rw [hx]; simp [costs, cost]
      have hnext : costs (kids.take (j + 1)) = costs (kids.take j) + (4 + ks.length + costs kk) := by rw [htake, costs_append, hone]
      have hmark : markTs (kids.take (j + 1)) k ++ kids.drop (j + 1) = markTs (kids.take j) k ++ (markT kids[j] (k + costs (kids.take j)) :: kids.drop (j + 1)) := by
        rw [htake, markTs_append]
        simp [markTs]
      rw [hdrop, rows_append, rows, hx] at hown
      have Hmark := Lib.hid hmark
      rw [hx] at Hmark
      have HL := Lib.hid (show (rows (markTs (kids.take j) k)).length = j * 6 by rw [rows_length, markTs_length, List.length_take]; congr 1; omega)
      have Hnext := Lib.hid hnext
      generalize costs (kids.take j) = C0 at *
      have hkk : k + C0 + 4 + ks.length + costs kk ≤ 4611686018427387904 := by omega
      clear hmark hnext hall hone hx hdrop htake
      obtain ⟨K, hK⟩ : ∃ K, k + C0 = K := ⟨_, rfl⟩
      rw [hK] at hkk Hmark ⊢
      have hK0 : 0 ≤ K := by omega
      have HK := Lib.hid hK
      clear hK
      generalize hLL : rows (markTs (kids.take j) k) = L at *
      generalize hRR : rows (kids.drop (j + 1)) = R at *
      have hown0 : Own wr B (f + 1) (.slice (some ⟨g, 0, none⟩) kids.length c) (.sl 6 kids.length (mid L (row (.mk kd fl nm s ks kk)) R)) F := hown
      clear hown
      cases f with
      | zero =>
        obtain ⟨_, _, _, _, ho, _⟩ := Own.field hown0 hnd HL.out (r := 0) rfl
        exact ho.elim
      | succ f =>
      obtain ⟨o1, b1, ⟨q1, p1⟩, f1⟩ := Own.put (r := 0) (d' := .int .i64 K) (u' := .int .i64 K) hown0 hnd HL.out rfl trivial (fun w' => own_int (wf_of (by omega) (by omega)))
      obtain ⟨o2, b2, ⟨q2, p2⟩, f2⟩ := Own.put (r := 1) (d' := .bool (decide ((K + 1) % 3 = 0))) (u' := .bool ((K + 1) % 3 == 0)) o1 hnd HL.out rfl trivial (fun w' => by rw [show ((K + 1) % 3 == 0) = decide ((K + 1) % 3 = 0) from rfl]; exact own_bool)
      obtain ⟨o3, b3, ⟨q3, p3⟩, f3⟩ := Own.put (r := 2) (d' := .int .i64 (K + 2)) (u' := .int .i64 (K + 2)) o2 hnd HL.out rfl trivial (fun w' => own_int (wf_of (by omega) (by omega)))
      have hkb3 := ((hkb.trans b1).trans b2).trans b3
      simp only [Nat.add_zero] at o1 b1 p1 f1 o2 b2 p2 f2 o3 b3 p3 f3 hkb3
      have Ho3 := Lib.hid o3
      have Hkb3 := Lib.hid hkb3
      have HMT := Lib.hid (fun w => mark_text (K + 3) w (by omega))
      have e3 : (K + 1) + 1 = K + 2 := by omega
      have e4 : (K + 2) + 1 = K + 3 := by omega
      clear hown0 o1 o2 o3 b1 b2 b3 hkb hkb3
      go_wp2_with fail
      refine (HMT.out _).mono ?_
      rintro e w4 ⟨rfl, hb4⟩
      have o4 := Ho3.out.below hb4
      have hkb4 := Hkb3.out.trans (KeptBut.of_below hb4)
      obtain ⟨o5, b5, ⟨q5, p5⟩, f5⟩ := Own.put (r := 3) (d' := .str (lawStr.mt (K + 3))) (u' := .string (lawStr.mt (K + 3))) o4 hnd HL.out rfl trivial (fun w' => own_str (mt_size _ (by omega)))
      have hkb5 := hkb4.trans b5
      obtain ⟨u6, F6, q6, _, o6, hs6, _, _, hd6, back6⟩ := Own.field (r := 4) (d := .sl 1 ks.length (skeys ks)) o5 hnd HL.out rfl
      obtain ⟨e6, r6, _, hF6⟩ := own_strs_row (ks := ks) o6
      have e5 : (K + 3) + 1 = K + 4 := by omega
      have HM := Lib.hid (lawStr.mark_any B ks.length u6 (K + 4) (scells ks) _ r6 (by omega) (by omega))
      have Ho6 := Lib.hid o6
      have Hback6 := Lib.hid back6
      have Hkb5 := Lib.hid hkb5
      have Hs6 := Lib.hid hs6
      have HF6 := Lib.hid hF6
      clear q1 p1 f1 q2 p2 f2 q3 p3 f3 HMT hb4 o4 hkb4 o5 b5 hkb5 o6 hs6 back6 r6 hF6 Ho3 Hkb3
      go_wp2_with fail
      refine HM.out.mono ?_
      rintro e w6 ⟨rfl, r7, g7⟩
      have kb7 := KeptBut.of_row g7 HF6.out
      have o7 := own_strs_again Ho6.out r7 (by rw [marks_length]) (fun x hx => by
        simp only [marks, List.mem_map, List.mem_range] at hx
        obtain ⟨m, hm, rfl⟩ := hx
        exact mt_size _ (by omega)) HF6.out
      have o8 := Hback6.out w6 _ kb7 o7
      have hkb8 := Hkb5.out.trans (kb7.mono Hs6.out)
      obtain ⟨u9, F9, q9, _, o9, hs9, _, _, hd9, back9⟩ := Own.field (r := 5) (d := .sl 6 kk.length (rows kk)) o8 hnd HL.out rfl
      have HPk := Lib.hid (HP.out f rfl B u9 kk F9 (K + 4 + ks.length) w6 o9 hd9 (by omega) (by omega))
      have Hback9 := Lib.hid back9
      have Hkb8 := Lib.hid hkb8
      have Hs9 := Lib.hid hs9
      clear HM r7 g7 kb7 o7 o8 hkb8 o9 hs9 back9 Ho6 Hback6 Hkb5 Hs6 HF6 q5 p5 f5 q6
      go_wp2_with fail
      refine HPk.out.mono ?_
      rintro e w10 ⟨rfl, o10, kb10⟩
      have o11 := Hback9.out w10 _ kb10 o10
      have Hkb11 := Lib.hid (Hkb8.out.trans (kb10.mono Hs9.out))
      have Ho11 : Hid (Own w10 B (f + 1 + 1) (.slice (some ⟨g, 0, none⟩) kids.length c) (.sl 6 kids.length (rows (markTs (kids.take (j + 1)) k ++ kids.drop (j + 1)))) F) := by
        unfold Hid
        rw [Hmark.out, rows_append, rows, hLL, hRR, markT, row, marks_length, markTs_length]
        exact o11
      clear HPk o10 kb10 o11 Hback9 Hkb8 Hs9 q9
      go_wp2_with fail
      go_roundw
      case rel => exact ⟨j + 1, by omega, by go_num, by rw [Hnext.out]; have := HK.out; congr 1; omega, Ho11.out, Hkb11.out⟩
      case measure => simp [intOf]; omega
    · obtain rfl : j = kids.length := by omega
      rw [List.take_of_length_le (Nat.le_refl _), List.drop_of_length_le (Nat.le_refl _), List.append_nil] at hown
      have Hown := Lib.hid hown
      have Hkb := Lib.hid hkb
      clear hown hkb
      rw [List.take_of_length_le (Nat.le_refl _)]
      go_wp2_with fail
      go_ret
      exact ⟨rfl, Hown.out, Hkb.out⟩
theorem mark_kids : ∀ f, MarkKids f
  | 0 => mark_kids_step (fun f' hf => by omega)
  | f + 1 => mark_kids_step (fun f' hf => by obtain rfl : f = f' := by omega
                                             exact mark_kids f)
end Go.Proofs.Ytllfhnlhfnimbaa.tree
namespace Go.Proofs.Ytllfhnlhfnimbaa.tree
open Go.ChangeShapes Go.WideShapes Go.ChangeAt Go.RowKit
open lawStr
set_option linter.unusedVariables false

/-- What markTree leaves of a tree that was handed in by value. -/
def topT : T → Int → T
  | .mk kd f n s ks kids, k => .mk kd f n s (marks k ks.length) (markTs kids (k + ks.length))
def topCost : T → Nat
  | .mk _ _ _ _ ks kids => ks.length + costs kids
theorem topCost_le (t : T) : topCost t ≤ 5 * weight t + 5 := by
  cases t with
  | mk kd f n s ks kids =>
    have h := cost_le (.mk kd f n s ks kids)
    rw [cost] at h
    rw [topCost]
    omega
theorem mark_tree {B f : Nat} (t : T) (vs : List Value) (F : List Nat) (k : Int) (w : World) (h : OwnS w B f vs (row t) F) (hnd : F.Nodup) (h0 : 0 ≤ k) (hk : k + topCost t ≤ 4611686018427387904) :
    Calls Try.prog 12 #[.agg vs.toArray, .int .i64 k] w fun e w' => e = .returned (.int .i64 (k + topCost t)) ∧ OwnS w' B f vs (row (topT t k)) F ∧ KeptBut F w w' := by
  obtain ⟨kd, fl, nm, s, ks, kids⟩ := t
  obtain ⟨v1, v2, F1, F2, rfl, wk, wn, ws, o1, o2, rfl, n1, n2, hd⟩ := owned_tree h hnd
  rw [topCost] at hk ⊢
  cases f with
  | zero => exact o1.elim
  | succ f =>
  have hb0 : Below w.heap.size w (w.alloc (.cells #[.int .i64 kd, .bool fl, .int .i64 nm, .string s, v1, v2] 29)) := (Below.refl _ _).alloc (Nat.le_refl _) _
  have h10 : (w.alloc (.cells #[.int .i64 kd, .bool fl, .int .i64 nm, .string s, v1, v2] 29)).heap[w.heap.size]? = some (.cells #[.int .i64 kd, .bool fl, .int .i64 nm, .string s, v1, v2] 29 (0, 0)) := heap_alloc_new w _
  have p4 := cell_of_row _ _ 4 _ _ _ h10
  have p4' : (w.alloc (.cells #[.int .i64 kd, .bool fl, .int .i64 nm, .string s, v1, v2] 29)).cell? ⟨w.heap.size, 4, none⟩ = some v1 := p4
  clear p4
  have o1' := o1.below hb0
  have o2' := o2.below hb0
  have rg1 := o1.range
  have rg2 := o2.range
  obtain ⟨e6, r6, _, hF6⟩ := own_strs_row (ks := ks) o1'
  have HM := Lib.hid (lawStr.mark_any B ks.length v1 k (scells ks) _ r6 h0 (by omega))
  have H10 := Lib.hid h10
  have Ho1 := Lib.hid o1'
  have Ho2 := Lib.hid o2'
  have Hw := Lib.hid (show (Lit.int .i64 kd).wf = true ∧ (Lit.int .i64 nm).wf = true ∧ s.size ≤ maxLen from ⟨wk, wn, ws⟩)
  have Hd := Lib.hid hd
  have Hb0 := Lib.hid (KeptBut.of_below (F := F1 ++ F2) hb0)
  have Hsz := Lib.hid (show w.heap.size < (w.alloc (.cells #[.int .i64 kd, .bool fl, .int .i64 nm, .string s, v1, v2] 29)).heap.size from heap_lt h10)
  have HF6 := Lib.hid hF6
  have Hr1 := Lib.hid rg1
  have Hr2 := Lib.hid rg2
  clear h hnd o1 o2 o1' o2' r6 h10 wk wn ws hd hb0 hF6 rg1 rg2
  go_enter Try.func12, Try.ntmps12
  go_wp2_with fail
  refine HM.out.mono ?_
  rintro e w2 ⟨rfl, r7, g7⟩
  have kb7 := KeptBut.of_row g7 HF6.out
  have o7 := own_strs_again Ho1.out r7 (by rw [marks_length]) (fun x hx => by
    simp only [marks, List.mem_map, List.mem_range] at hx
    obtain ⟨m, hm, rfl⟩ := hx
    exact mt_size _ (by omega)) HF6.out
  have o8 := Ho2.out.but kb7 (fun x hx hy => Hd.out x hy hx)
  have p5 : w2.cell? ⟨w.heap.size, 5, none⟩ = some v2 := by
    rw [cell_of_row w2 w.heap.size 5 _ _ _ ((kb7.block w.heap.size Hsz.out (fun hx => by have := (Hr1.out _ hx).2; omega)).trans H10.out)]
    rfl
  have HP := Lib.hid (mark_kids f B v2 kids F2 (k + ks.length) w2 o8 n2 (by omega) (by omega))
  have Ho7 := Lib.hid o7
  have Hkb7 := Lib.hid (Hb0.out.trans (kb7.mono (fun x hx => List.mem_append_left _ hx)))
  clear HM r7 g7 kb7 o7 o8 Ho1 Ho2 H10 Hb0 p4'
  go_wp2_with fail
  refine HP.out.mono ?_
  rintro e w3 ⟨rfl, o9, kb9⟩
  have Ho10 := Lib.hid (Ho7.out.but kb9 (fun x hx hy => Hd.out x hx hy))
  have Ho9 := Lib.hid o9
  have Hkb9 := Lib.hid (Hkb7.out.trans (kb9.mono (fun x hx => List.mem_append_right _ hx)))
  clear HP o9 kb9 Ho7 Hkb7 p5
  go_wp2_with fail
  go_ret
  refine ⟨ret_int (by simp; omega), ?_, Hkb9.out⟩
  rw [topT, row, marks_length, markTs_length]
  have h := OwnS.cons (own_int (w := w3) (B := B) (f := f) Hw.out.1) (OwnS.cons (own_bool (b := fl)) (OwnS.cons (own_int Hw.out.2.1) (OwnS.cons (own_str Hw.out.2.2) (OwnS.cons Ho10.out (OwnS.cons Ho9.out OwnS.nil)))))
  simpa [skeys] using h

end Go.Proofs.Ytllfhnlhfnimbaa.tree
namespace Go.Proofs.Ytllfhnlhfnimbaa.tree
open Go.ChangeShapes Go.WideShapes Go.ChangeAt Go.RowKit
open lawStr
set_option linter.unusedVariables false

/-- At a depth. -/
def HeldKids (f : Nat) : Prop := ∀ (A : Option Addr) (c : Nat) (kids : List T) (k : Int) (w : World), kids.length ≤ c → c ≤ maxLen → KidsAt w f A (markTs kids k) → 0 ≤ k → k + costs kids ≤ 4611686018427387904 →
  Calls Try.prog 33 #[.slice A kids.length c, .int .i64 k] w fun e w' => e = .returned (.int .i64 (k + costs kids)) ∧ Below w.heap.size w w'
set_option maxRecDepth 100000 in
set_option maxHeartbeats 8000000 in
theorem held_kids_step {f : Nat} (hP : ∀ f', f = f' + 1 → HeldKids f') : HeldKids f := by
  intro A c kids k w hc hm hk h0 hkk
  unfold maxLen at hm
  have Hk := Lib.hid hk
  have HP := Lib.hid hP
  clear hk hP
  go_enter Try.func33, Try.ntmps33
  go_wp2_with fail
  go_loopw [1, 5] (fun a i wr => ∃ (j : Nat), j ≤ kids.length ∧ i = .int .i64 j ∧ a = .int .i64 (k + costs (kids.take j)) ∧ Below w.heap.size w wr) (fun _ i _ => kids.length - (intOf i).toNat)
  case atStart => exact ⟨0, Nat.zero_le _, rfl, by simp [costs], Below.refl _ _⟩
  case round =>
    obtain ⟨j, hj, rfl, rfl, hbel⟩ := hrel
    by_cases hlt : j < kids.length
    · obtain ⟨g, o, rfl, hg, hkid⟩ := (Hk.out.below hbel) (by rw [markTs_length]; omega)
      have htake : kids.take (j + 1) = kids.take j ++ [kids[j]] := List.take_succ_eq_append_getElem hlt
      have hdrop : kids.drop j = kids[j] :: kids.drop (j + 1) := List.drop_eq_getElem_cons hlt
      have hsplit : kids = kids.take j ++ (kids[j] :: kids.drop (j + 1)) := by rw [← hdrop, List.take_append_drop]
      have hget : (markTs kids k)[j]? = some (markT kids[j] (k + costs (kids.take j))) := by
        have e : markTs kids k = markTs (kids.take j) k ++ (markT kids[j] (k + costs (kids.take j)) :: markTs (kids.drop (j + 1)) (k + costs (kids.take j) + cost kids[j])) := by
          conv => lhs; rw [hsplit]
          rw [markTs_append, markTs]
        rw [e, List.getElem?_append_right (by rw [markTs_length, List.length_take]; omega), markTs_length, List.length_take, show j - min j kids.length = 0 by omega]
        rfl
      have hall : costs kids = costs (kids.take j) + (cost kids[j] + costs (kids.drop (j + 1))) := by
        conv => lhs; rw [hsplit]
        rw [costs_append, costs]
      have hnext : costs (kids.take (j + 1)) = costs (kids.take j) + cost kids[j] := by rw [htake, costs_append]; simp [costs]
      obtain ⟨u0, u1, u2, u3, u4, u5, hsix, hls⟩ := hkid j _ hget
      have Hnext := Lib.hid hnext
      generalize costs (kids.take j) = C0 at *
      cases hx : kids[j] with
      | mk kd fl nm s ks kk =>
      rw [hx, markT] at hls
      rw [hx, cost] at hall Hnext
      obtain ⟨A1, c1, A2, c2, hv, _, _, hs3, hc1, hc2, hr, hks, hc3, hc4, f', hf, hkk2⟩ := open_tree hls
      rw [marks_length] at hv hc1 hr
      rw [markTs_length] at hv hc3
      simp only [List.cons.injEq, and_true] at hv
      obtain ⟨rfl, rfl, rfl, rfl, rfl, rfl⟩ := hv
      obtain ⟨q0, q1, q2, q3, q4, q5⟩ := hsix
      obtain ⟨K, hK⟩ : ∃ K, k + C0 = K := ⟨_, rfl⟩
      rw [hK] at q0 q1 q2 q3 hr hkk2 ⊢
      rw [show decide ((K + 1) % 3 = 0) = ((K + 1) % 3 == 0) from rfl] at q1
      have efl : (((K + 1) % 3 == 0) == ((K + 1) % 3 == 0)) = true := by simp
      have HK := Lib.hid hK
      have hbd : K + 4 + ks.length + costs kk ≤ 4611686018427387904 := by omega
      have hK0 : 0 ≤ K := by omega
      have e3 : (K + 1) + 1 = K + 2 := by omega
      have e4 : (K + 2) + 1 = K + 3 := by omega
      have e5 : (K + 3) + 1 = K + 4 := by omega
      have hmt := fun w => mark_text (K + 3) w (by omega)
      have HMT := Lib.hid hmt
      have HH := Lib.hid (fun w1 (hb : Below wr.heap.size wr w1) => lawStr.held_yes A1 ks.length c1 (K + 4) w1 (hr.below hb) (by omega) (by omega))
      have HR := Lib.hid (fun w1 (hb : Below wr.heap.size wr w1) => HP.out f' hf A2 c2 kk (K + 4 + ks.length) w1 hc3 hc4 (hkk2.below hb) (by omega) (by omega))
      have Hbel := Lib.hid hbel
      clear hkid hget hsplit hdrop htake hall hnext hls hr hkk2 hbel hks hc1 hc2 hc3 hc4 hmt hf hs3 hx hK
      go_wp2_with fail
      go_region_law (go_simp; go_at_call 35; refine (HMT.out _).mono ?_; rintro e w1 ⟨rfl, hb1⟩; have q3' : w1.cell? ⟨g, o + j * 6 + 3, none⟩ = some (.string (lawStr.mt (K + 3))) := (hb1.cell (p := ⟨g, o + j * 6 + 3, none⟩) hg).trans q3)
      all_goals
        have hb2 : Below wr.heap.size wr w1 := (Below.refl _ _).drew.trans (hb1.mono (Nat.le_refl _))
        have q4' : w1.cell? ⟨g, o + j * 6 + 4, none⟩ = some (.slice A1 ks.length c1) := (hb2.cell (p := ⟨g, o + j * 6 + 4, none⟩) hg).trans q4
        go_wp2_with fail
        refine (HH.out _ hb2).mono ?_
        rintro e w2 ⟨rfl, hb3⟩
        have hb4 : Below wr.heap.size wr w2 := hb2.trans (hb3.mono hb2.size)
        have q5' : w2.cell? ⟨g, o + j * 6 + 5, none⟩ = some (.slice A2 kk.length c2) := (hb4.cell (p := ⟨g, o + j * 6 + 5, none⟩) hg).trans q5
        go_wp2_with fail
        refine (HR.out _ hb4).mono ?_
        rintro e w3 ⟨rfl, hb5⟩
        have Hbel3 := Lib.hid (Hbel.out.trans ((hb4.trans (hb5.mono hb4.size)).mono Hbel.out.size))
        go_wp2_with fail
        go_roundw
        case rel => exact ⟨j + 1, by omega, by go_num, by rw [Hnext.out]; have := HK.out; congr 1; omega, Hbel3.out⟩
        case measure => simp [intOf]; omega
    · obtain rfl : j = kids.length := by omega
      rw [List.take_of_length_le (Nat.le_refl _)]
      have Hbel := Lib.hid hbel
      clear hbel
      go_wp2_with fail
      go_ret
      exact ⟨rfl, Hbel.out⟩
theorem held_kids : ∀ f, HeldKids f
  | 0 => held_kids_step (fun f' hf => by omega)
  | f + 1 => held_kids_step (fun f' hf => by obtain rfl : f = f' := by omega
                                             exact held_kids f)
theorem held_tree {f : Nat} (t : T) (vs : List Value) (k : Int) (w : World) (h : LiesS w f vs (row (topT t k))) (h0 : 0 ≤ k) (hk : k + topCost t ≤ 4611686018427387904) :
    Calls Try.prog 13 #[.agg vs.toArray, .int .i64 k] w fun e w' => e = .returned (.int .i64 (k + topCost t)) ∧ Below w.heap.size w w' := by
  obtain ⟨kd, fl, nm, s, ks, kids⟩ := t
  rw [topT] at h
  rw [topCost] at hk ⊢
  obtain ⟨A1, c1, A2, c2, rfl, _, _, _, hc1, hc2, hr, _, hc3, hc4, f', hf, hkk⟩ := open_tree h
  rw [marks_length] at hc1 hr h ⊢
  rw [markTs_length] at hc3 h ⊢
  have HB := Lib.hid (Box.new 29 w [.int .i64 kd, .bool fl, .int .i64 nm, .string s, .slice A1 ks.length c1, .slice A2 kids.length c2])
  have p4 := HB.out.cell (j := 4) rfl
  have HH := Lib.hid (lawStr.held_yes A1 ks.length c1 k _ (hr.below HB.out.1) (by omega) (by omega))
  have HR := Lib.hid (fun w1 (hb : Below w.heap.size w w1) => held_kids f' A2 c2 kids (k + ks.length) w1 hc3 hc4 (hkk.below hb) (by omega) (by omega))
  clear h hr hkk hc1 hc2 hc3 hc4 hf
  go_enter Try.func13, Try.ntmps13
  go_wp2_with fail
  refine HH.out.mono ?_
  rintro e w2 ⟨rfl, hb2⟩
  have HB2 := Lib.hid (HB.out.below hb2)
  have p5 := HB2.out.cell (j := 5) rfl
  clear HH HB hb2 p4
  go_wp2_with fail
  refine (HR.out _ HB2.out.1).mono ?_
  rintro e w3 ⟨rfl, hb3⟩
  have HB3 := Lib.hid (HB2.out.below hb3)
  clear HR hb3 HB2 p5
  go_wp2_with fail
  go_ret
  exact ⟨ret_int (by simp; omega), HB3.out.1⟩
end Go.Proofs.Ytllfhnlhfnimbaa.tree
namespace Go.Proofs.Ytllfhnlhfnimbaa
open Go Go.RowKit
set_option linter.unusedVariables false

/-- append onto a slice of the call's own as one step of a region that draws its order. -/
theorem step_append_at {P : Program} {ops : Array Oper} {o : Oper} {a : Act} {w : World} {K : Act → World → Prop} {Q : Exit → Act → World → Prop} {E : Prop}
    (hg : o.guard = none) (s x : Operand) (t : TypeId) (hop : o.op = Op.call { callee := Callee.builtin Builtin.append, args := #[s, x], argTypes := #[t, t] })
    (B : Nat) (e : TypeId) (i : TypeInfo) (z : Value) (size bytes : Nat) (h1 : P.underlying t = some (.slice e)) (h2 : P.info? e = some i) (h3 : i.zero = some z) (h4 : i.size = size) (h5 : i.bytes = bytes) (h6 : z.cells.size = size) (h7 : 0 < size)
    (v : Value) (n : Nat) (xs : List Value) (hs : a.eval s = v) (hown : w.ownsRow B e size v n xs)
    (ad : Addr) (m c : Nat) (news : List Value) (hx : a.eval x = .slice (some ad) m c) (hn : news.length = m * size) (hc : ∀ j u, news[j]? = some u → w.cell? (ad.add j) = some u) (h1c : ∀ u ∈ news, u.oneCell' = true)
    (b1 : n + m ≤ maxLen) (b2 : (n + m) * bytes ≤ 140737488355328) (b3 : B ≤ w.heap.size)
    (hK : ∀ v' w', w'.ownsRow B e size v' (n + m) (xs ++ news) → w.grownBy w' v.ownBlock → (v'.ownBlock = v.ownBlock ∨ v'.ownBlock = some w.heap.size) → K (a.put o.dst v') w') :
    if Region.wanted o (yielded ops a.tmps) = true then Oper.wp P o a w K Q else E := by
  have hw : Region.wanted o (yielded ops a.tmps) = true := by simp [Region.wanted, hg]
  rw [if_pos hw]
  obtain ⟨v', w', hrun, r1, r2, _, r3⟩ := run_append_own_at (P := P) w B t o.type e i z size bytes h1 h2 h3 h4 h5 h6 h7 v n xs hown ad m c news hn hc h1c b1 b2 b3
  unfold Oper.wp
  simp [execOp, hop, resolve, invoke, builtin, hs, hx, hrun, Result.andThen]
  exact hK v' w' r1 r2 r3
/-- append(v, x...) of a slice x that reads, nil or not, one cell an element. -/
theorem wpList_append_rd {P : Program} {w : World} {ops : Array Oper} {rest : List Oper} {o : Oper} {a : Act} {Q : Exit → Act → World → Prop} (hgd : o.guard = none) (s x : Operand) (t : TypeId)
    (ho : o.op = .call { callee := .builtin .append, args := #[s, x], argTypes := #[t, t] })
    (base : Nat) (e : TypeId) (i : TypeInfo) (z : Value) (bytes : Nat) (ht : P.underlying t = some (.slice e)) (hi : P.info? e = some i) (hz : i.zero = some z)
    (hsize : i.size = 1) (hby : i.bytes = bytes) (hzs : z.cells.size = 1)
    (v : Value) (n : Nat) (xs : List Value) (hs : a.eval s = v) (hown : w.ownsRow base e 1 v n xs)
    (A : Option Addr) (m c : Nat) (news : List Value) (hx : a.eval x = .slice A m c) (hr : Rd w A m news) (h1 : ∀ u ∈ news, u.oneCell' = true)
    (h63 : n + m ≤ maxLen) (hbytes : (n + m) * bytes ≤ 140737488355328) (hbase : base ≤ w.heap.size)
    (h : ∀ v' w', w'.ownsRow base e 1 v' (n + m) (xs ++ news) → w.grownBy w' v.ownBlock → (v'.ownBlock = v.ownBlock ∨ v'.ownBlock = some w.heap.size) → wpList P ops Q rest (a.put o.dst v') w') :
    wpList P ops Q (o :: rest) a w := by
  refine wpList_plain hgd fun K hK => ?_
  have hrun : ∃ v' w', (Builtin.append_ #[t, t] o.type #[v, .slice A m c]).run P w = .ok v' w' ∧ w'.ownsRow base e 1 v' (n + m) (xs ++ news) ∧ w.grownBy w' v.ownBlock ∧ (v'.ownBlock = v.ownBlock ∨ v'.ownBlock = some w.heap.size) := by
    cases A with
    | none =>
      have hm : m = 0 := by
        rcases Nat.eq_zero_or_pos m with h | h
        · exact h
        · obtain ⟨g, o, hg, _⟩ := hr.2 h
          cases hg
      subst hm
      have hn : news = [] := List.eq_nil_of_length_eq_zero hr.1
      subst hn
      refine ⟨v, w, ?_, by simpa using hown, World.grownBy.refl _ _, .inl rfl⟩
      rcases hown.2 with ⟨rfl, rfl⟩ | ⟨g, cap, cur, rfl, _, _, hnc, _⟩
      · simp [Builtin.append_, run_underlying ht, sizeOf, typeInfo, hi, Builtin.lenOf, Builtin.firstCells]
      · simp [Builtin.append_, run_underlying ht, sizeOf, typeInfo, hi, Builtin.lenOf, Builtin.firstCells, hnc, storeCells]
    | some ad =>
      obtain ⟨v', w', r0, r1, r2, _, r3⟩ := run_append_own_at (P := P) w base t o.type e i z 1 bytes ht hi hz hsize hby hzs (by decide) v n xs hown ad m c news (by rw [hr.1]; omega) (fun j u hu => by
        have hj : j < m := by have := (List.getElem?_eq_some_iff.1 hu).1; have := hr.1; omega
        obtain ⟨g, o', hg, _, hc⟩ := hr.2 (by omega)
        injection hg with hg
        subst hg
        rw [Addr.add_lit]
        exact hc j hj u hu) h1 h63 hbytes hbase
      exact ⟨v', w', r0, r1, r2, r3⟩
  obtain ⟨v', w', hr', h2, h3, h5⟩ := hrun
  unfold Oper.wp execOp
  simp only [ho, resolve, invoke, builtin, Sem.run_bind, Sem.run_pure, Result.andThen_ok, List.map_toArray, List.map_cons, List.map_nil, hs, hx, hr']
  exact hK _ _ (h v' w' h2 h3 h5)
theorem strs_one (ks : List ByteArray) : ∀ u ∈ scells ks, u.oneCell' = true := by
  intro u hu
  obtain ⟨s, _, rfl⟩ := List.mem_map.1 hu
  rfl
theorem own_is_slice {w : World} {B : Nat} {e : TypeId} {size : Nat} {v : Value} {n : Nat} {xs : List Value} (h : w.ownsRow B e size v n xs) : ∃ A c, v = .slice A n c := by
  rcases h.2 with ⟨rfl, rfl⟩ | ⟨g, cap, cur, rfl, _⟩
  · exact ⟨none, 0, rfl⟩
  · exact ⟨_, _, rfl⟩
theorem OwnS.ones {w : World} {B f : Nat} {vs : List Value} {ds : List C} {F : List Nat} (h : OwnS w B f vs ds F) : ∀ u ∈ vs, u.oneCell' = true := by
  obtain ⟨h1, Fs, h2, rfl, h3⟩ := h
  intro v hv
  obtain ⟨m, hm, rfl⟩ := List.getElem_of_mem hv
  exact (h3 m _ _ _ (List.getElem?_eq_getElem hm) (List.getElem?_eq_getElem (by omega)) (List.getElem?_eq_getElem (by omega))).one
end Go.Proofs.Ytllfhnlhfnimbaa
namespace Go.Proofs.Ytllfhnlhfnimbaa.tree
open Go.ChangeShapes Go.WideShapes Go.ChangeAt Go.RowKit
set_option linter.unusedVariables false

theorem tree_size' : (Try.prog.info? 29).map (·.size) = some 6 := by kernel_rfl
theorem TryinfoTree' : (Try.prog.info? 29).map (fun i => (i.zero, i.size, i.bytes)) = some (some (.agg #[.int .i64 0, .bool false, .int .i64 0, .string ⟨#[]⟩, .slice none 0 0, .slice none 0 0]), 6, 88) := by kernel_rfl
theorem TryinfoStr' : (Try.prog.info? 9).map (fun i => (i.zero, i.size, i.bytes)) = some (some (.string ⟨#[]⟩), 1, 16) := by kernel_rfl

def TreeOut' (B f : Nat) (t : T) (e : Ending) (w' : World) : Prop := ∃ us F, e = .returned (.agg us.toArray) ∧ OwnS w' B f us (row t) F ∧ F.Nodup
theorem wf_small {k : Int} (h0 : 0 ≤ k) (h1 : k ≤ 10) : (Lit.int .i64 k).wf = true := by
  have e1 : IntKind.i64.min = -9223372036854775808 := rfl
  have e2 : IntKind.i64.max = 9223372036854775807 := rfl
  simp [Lit.wf, e1, e2]
  omega
theorem own_leaf {w : World} {B : Nat} {k : Int} {fl : Bool} {n : Int} {s : ByteArray} (f : Nat) (hk : (Lit.int .i64 k).wf = true) (hn : (Lit.int .i64 n).wf = true) (hs : s.size ≤ maxLen) :
    OwnS w B (f + 1) [.int .i64 k, .bool fl, .int .i64 n, .string s, .slice none 0 0, .slice none 0 0] (row (.mk k fl n s [] [])) [] := by
  obtain ⟨F, ho, hnd, hF⟩ := own_tree (fl := fl) (ks := []) (kids := []) hk hn hs (own_nil w B f 1) (own_nil w B f 6) List.nodup_nil List.nodup_nil (fun x hx => by cases hx)
  have : F = [] := by
    cases F with
    | nil => rfl
    | cons a r => rcases hF a List.mem_cons_self with h | h <;> cases h
  subst this
  exact ho
theorem ret_tree {fn : Func} {c : Tmp} {tmps : Array Value} {w : World} {g : Nat} {vs : Array Value} (h : fn.results = #[.cell c 29])
    (hc : tmps.getD c undef = .pointer (some ⟨g, 0, none⟩)) (hsz : vs.size = 6) (hg : w.heap[g]? = some (.cells vs 29 (0, 0))) : (results fn tmps).run Try.prog w = .ok (.agg vs) w :=
  results_cell_row h _ _ g _ vs (0, 0) _ hc hg Try.underlying29 rfl (by rw [hsz]; exact tree_size')
end Go.Proofs.Ytllfhnlhfnimbaa.tree
namespace Go.Proofs.Ytllfhnlhfnimbaa.tree
open Go Go.RowKit
theorem same_yes {a b : ByteArray} (h : a = b) : (a.toList == b.toList) = true := by subst h; simp
theorem same_no {a b : ByteArray} (h : ¬ a = b) : (a.toList == b.toList) = false := by
  rw [beq_eq_false_iff_ne, ByteArray.toList_eq, ByteArray.toList_eq]
  exact fun e => h (by apply ByteArray.ext; exact Array.ext' e)
theorem same_yes' {a b : ByteArray} (h : a = b) : (b.toList == a.toList) = true := by rw [h]; simp
theorem same_no' {a b : ByteArray} (h : ¬ a = b) : (b.toList == a.toList) = false := by
  have := same_no h
  simp only [beq_eq_false_iff_ne] at this ⊢
  exact fun e => this e.symm
end Go.Proofs.Ytllfhnlhfnimbaa.tree
