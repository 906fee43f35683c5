/- The law's own marks on a tree: markTreeS, markTree. -/
import Derived.Test.YtlnfbpdicjcpgaaDoorGTree
import Derived.Test.YtlnfbpdicjcpgaaDoorLawStr
namespace Go.Proofs.YtlnfbpdicjcpgaaDoor.tree
open Go.ChangeShapes Go.WideShapes Go.ChangeAt Go.RowKit
open lawStr
set_option linter.unusedVariables false

mutual
def cost : T → Nat
  | .mk _ _ _ _ ks kids => 4 + ks.length + costs kids
def costs : List T → Nat
  | [] => 0
  | t :: r => cost t + costs r
end
theorem costs_append : ∀ a b : List T, costs (a ++ b) = costs a + costs b
  | [], b => by simp [costs]
  | t :: r, b => by rw [List.cons_append, costs, costs, costs_append r b]; omega
theorem cost_le : ∀ t, cost t ≤ 4 + 5 * weight t := by
  refine T.ind fun k f n s ks kids ih => ?_
  rw [cost, weight]
  have : costs kids ≤ 5 * (kids.length + weights kids) := by
    clear f n s ks k
    induction kids with
    | nil => simp [costs]
    | cons a r ih2 =>
      rw [costs, weights, List.length_cons]
      have h1 := ih a List.mem_cons_self
      have h2 := ih2 (fun x hx => ih x (List.mem_cons_of_mem _ hx))
      omega
  omega
mutual
def markT : T → Int → T
  | .mk _ _ _ _ ks kids, k => .mk k (decide ((k + 1) % 3 = 0)) (k + 2) (lawStr.mt (k + 3)) (marks (k + 4) ks.length) (markTs kids (k + 4 + ks.length))
def markTs : List T → Int → List T
  | [], _ => []
  | t :: r, k => markT t k :: markTs r (k + cost t)
end
theorem markTs_length : ∀ (l : List T) (k : Int), (markTs l k).length = l.length
  | [], _ => rfl
  | t :: r, k => by rw [markTs, List.length_cons, List.length_cons, markTs_length r]
theorem markTs_append : ∀ (a b : List T) (k : Int), markTs (a ++ b) k = markTs a k ++ markTs b (k + costs a)
  | [], b, k => by simp [markTs, costs]
  | t :: r, b, k => by
    rw [List.cons_append, markTs, markTs, markTs_append r b, costs, List.cons_append]
    congr 3
    omega
theorem dg_length : ∀ (f m : Nat) (acc : List UInt8), (dg f m acc).length ≤ f + acc.length
  | 0, m, acc => by simp [dg]
  | f + 1, m, acc => by
    rw [dg]
    split
    · omega
    · have h := dg_length f (m / 10) (UInt8.ofNat (48 + m % 10) :: acc)
      rw [List.length_cons] at h
      omega
theorem mt_size (m : Int) (h : m ≤ 4611686018427387904) : (lawStr.mt m).size ≤ maxLen := by
  unfold lawStr.mt maxLen
  split
  · decide
  · show (109 :: dg m.toNat m.toNat []).toArray.size ≤ _
    rw [List.size_toArray, List.length_cons]
    have := dg_length m.toNat m.toNat []
    simp at this
    omega
theorem wf_of {k : Int} (h0 : -9223372036854775808 ≤ k) (h1 : k ≤ 9223372036854775807) : (Lit.int .i64 k).wf = true := by
  have e1 : IntKind.i64.min = -9223372036854775808 := rfl
  have e2 : IntKind.i64.max = 9223372036854775807 := rfl
  simp [Lit.wf, e1, e2]
  omega
/-- At a depth. -/
def MarkKids (f : Nat) : Prop := ∀ (B : Nat) (v : Value) (kids : List T) (F : List Nat) (k : Int) (w : World), Own w B (f + 1) v (.sl 6 kids.length (rows kids)) F → F.Nodup → 0 ≤ k → k + costs kids ≤ 4611686018427387904 →
  Calls Tryd.prog 41 #[v, .int .i64 k] w fun e w' => e = .returned (.int .i64 (k + costs kids)) ∧ Own w' B (f + 1) v (.sl 6 kids.length (rows (markTs kids k))) F ∧ KeptBut F w w'

theorem mark_kids_nil (f B : Nat) (k : Int) (w : World) (h0 : 0 ≤ k) (hk : k ≤ 4611686018427387904) :
    Calls Tryd.prog 41 #[.slice none 0 0, .int .i64 k] w fun e w' => e = .returned (.int .i64 k) ∧ w' = w := by
  go_enter Tryd.func41, Tryd.ntmps41
  go_wp2_with fail
  refine wp_loop_rounds 1 ?_
  rw [rounds_succ]
  go_wp2_with fail
  go_ret
  exact ⟨rfl, rfl⟩

set_option maxRecDepth 100000 in
set_option maxHeartbeats 8000000 in
theorem mark_kids_step {f : Nat} (hP : ∀ f', f = f' + 1 → MarkKids f') : MarkKids f := by
  intro B v kids F k w hown hnd h0 hk
  have hown' := hown
  obtain ⟨hl, ⟨rfl, hn, rfl⟩ | ⟨g, c, cur, e, Fs, rfl, h1, h2, h3, h4, hz, hF, h5, h6⟩⟩ := hown'
  · have : kids = [] := List.eq_nil_of_length_eq_zero hn
    subst this
    rw [costs] at hk ⊢
    refine (mark_kids_nil f B k w h0 (by omega)).mono ?_
    rintro e w' ⟨rfl, rfl⟩
    exact ⟨by simp, by simpa [markTs] using hown, KeptBut.refl _ _⟩
  have hcm : kids.length ≤ 9223372036854775807 := by unfold maxLen at h2; omega
  clear hl h3 h4 hz hF h5 h6 cur e Fs
  have HP := Lib.hid hP
  have Hown := Lib.hid hown
  clear hown hP
  go_enter Tryd.func41, Tryd.ntmps41
  go_wp2_with fail
  go_loopw [1, 5] (fun a i wr => ∃ (j : Nat), j ≤ kids.length ∧ i = .int .i64 j ∧ a = .int .i64 (k + costs (kids.take j)) ∧ Own wr B (f + 1) (.slice (some ⟨g, 0, none⟩) kids.length c) (.sl 6 kids.length (rows (markTs (kids.take j) k ++ kids.drop j))) F ∧ KeptBut F w wr) (fun _ i _ => kids.length - (intOf i).toNat)
  case atStart => exact ⟨0, Nat.zero_le _, rfl, by simp [costs], by simpa [markTs] using Hown.out, KeptBut.refl _ _⟩
  case round =>
    clear Hown
    obtain ⟨j, hj, rfl, rfl, hown, hkb⟩ := hrel
    by_cases hlt : j < kids.length
    · obtain ⟨kd, fl, nm, s, ks, kk, hx⟩ : ∃ kd fl nm s ks kk, kids[j] = T.mk kd fl nm s ks kk := by
        cases hx : kids[j] with
        | mk kd fl nm s ks kk => exact ⟨kd, fl, nm, s, ks, kk, rfl⟩
      have hdrop : kids.drop j = kids[j] :: kids.drop (j + 1) := List.drop_eq_getElem_cons hlt
      have htake : kids.take (j + 1) = kids.take j ++ [kids[j]] := List.take_succ_eq_append_getElem hlt
      have hall : costs kids = costs (kids.take j) + (costs [kids[j]] + costs (kids.drop (j + 1))) := by
        rw [← costs_append, ← costs_append, List.singleton_append, ← hdrop, List.take_append_drop]
      have hone : costs [kids[j]] = 4 + ks.length + costs kk := by rw [hx]; simp [costs, cost]
      have hnext : costs (kids.take (j + 1)) = costs (kids.take j) + (4 + ks.length + costs kk) := by rw [htake, costs_append, hone]
      have hmark : markTs (kids.take (j + 1)) k ++ kids.drop (j + 1) = markTs (kids.take j) k ++ (markT kids[j] (k + costs (kids.take j)) :: kids.drop (j + 1)) := by
        rw [htake, markTs_append]
        simp [markTs]
      rw [hdrop, rows_append, rows, hx] at hown
      have Hmark := Lib.hid hmark
      rw [hx] at Hmark
      have HL := Lib.hid (show (rows (markTs (kids.take j) k)).length = j * 6 by rw [rows_length, markTs_length, List.length_take]; congr 1; omega)
      have Hnext := Lib.hid hnext
      generalize costs (kids.take j) = C0 at *
      have hkk : k + C0 + 4 + ks.length + costs kk ≤ 4611686018427387904 := by omega
      clear hmark hnext hall hone hx hdrop htake
      obtain ⟨K, hK⟩ : ∃ K, k + C0 = K := ⟨_, rfl⟩
      rw [hK] at hkk Hmark ⊢
      have hK0 : 0 ≤ K := by omega
      have HK := Lib.hid hK
      clear hK
      generalize hLL : rows (markTs (kids.take j) k) = L at *
      generalize hRR : rows (kids.drop (j + 1)) = R at *
      have hown0 : Own wr B (f + 1) (.slice (some ⟨g, 0, none⟩) kids.length c) (.sl 6 kids.length (mid L (row (.mk kd fl nm s ks kk)) R)) F := hown
      clear hown
      cases f with
      | zero =>
        obtain ⟨_, _, _, _, ho, _⟩ := Own.field hown0 hnd HL.out (r := 0) rfl
        exact ho.elim
      | succ f =>
      obtain ⟨o1, b1, ⟨q1, p1⟩, f1⟩ := Own.put (r := 0) (d' := .int .i64 K) (u' := .int .i64 K) hown0 hnd HL.out rfl trivial (fun w' => own_int (wf_of (by omega) (by omega)))
      obtain ⟨o2, b2, ⟨q2, p2⟩, f2⟩ := Own.put (r := 1) (d' := .bool (decide ((K + 1) % 3 = 0))) (u' := .bool ((K + 1) % 3 == 0)) o1 hnd HL.out rfl trivial (fun w' => by rw [show ((K + 1) % 3 == 0) = decide ((K + 1) % 3 = 0) from rfl]; exact own_bool)
      obtain ⟨o3, b3, ⟨q3, p3⟩, f3⟩ := Own.put (r := 2) (d' := .int .i64 (K + 2)) (u' := .int .i64 (K + 2)) o2 hnd HL.out rfl trivial (fun w' => own_int (wf_of (by omega) (by omega)))
      have hkb3 := ((hkb.trans b1).trans b2).trans b3
      simp only [Nat.add_zero] at o1 b1 p1 f1 o2 b2 p2 f2 o3 b3 p3 f3 hkb3
      have Ho3 := Lib.hid o3
      have Hkb3 := Lib.hid hkb3
      have HMT := Lib.hid (fun w => mark_text (K + 3) w (by omega))
      have e3 : (K + 1) + 1 = K + 2 := by omega
      have e4 : (K + 2) + 1 = K + 3 := by omega
      clear hown0 o1 o2 o3 b1 b2 b3 hkb hkb3
      go_wp2_with fail
      refine (HMT.out _).mono ?_
      rintro e w4 ⟨rfl, hb4⟩
      have o4 := Ho3.out.below hb4
      have hkb4 := Hkb3.out.trans (KeptBut.of_below hb4)
      obtain ⟨o5, b5, ⟨q5, p5⟩, f5⟩ := Own.put (r := 3) (d' := .str (lawStr.mt (K + 3))) (u' := .string (lawStr.mt (K + 3))) o4 hnd HL.out rfl trivial (fun w' => own_str (mt_size _ (by omega)))
      have hkb5 := hkb4.trans b5
      obtain ⟨u6, F6, q6, _, o6, hs6, _, _, hd6, back6⟩ := Own.field (r := 4) (d := .sl 1 ks.length (skeys ks)) o5 hnd HL.out rfl
      obtain ⟨e6, r6, _, hF6⟩ := own_strs_row (ks := ks) o6
      have e5 : (K + 3) + 1 = K + 4 := by omega
      have HM := Lib.hid (lawStr.mark_any B ks.length u6 (K + 4) (scells ks) _ r6 (by omega) (by omega))
      have Ho6 := Lib.hid o6
      have Hback6 := Lib.hid back6
      have Hkb5 := Lib.hid hkb5
      have Hs6 := Lib.hid hs6
      have HF6 := Lib.hid hF6
      clear q1 p1 f1 q2 p2 f2 q3 p3 f3 HMT hb4 o4 hkb4 o5 b5 hkb5 o6 hs6 back6 r6 hF6 Ho3 Hkb3
      go_wp2_with fail
      refine HM.out.mono ?_
      rintro e w6 ⟨rfl, r7, g7⟩
      have kb7 := KeptBut.of_row g7 HF6.out
      have o7 := own_strs_again Ho6.out r7 (by rw [marks_length]) (fun x hx => by
        simp only [marks, List.mem_map, List.mem_range] at hx
        obtain ⟨m, hm, rfl⟩ := hx
        exact mt_size _ (by omega)) HF6.out
      have o8 := Hback6.out w6 _ kb7 o7
      have hkb8 := Hkb5.out.trans (kb7.mono Hs6.out)
      obtain ⟨u9, F9, q9, _, o9, hs9, _, _, hd9, back9⟩ := Own.field (r := 5) (d := .sl 6 kk.length (rows kk)) o8 hnd HL.out rfl
      have HPk := Lib.hid (HP.out f rfl B u9 kk F9 (K + 4 + ks.length) w6 o9 hd9 (by omega) (by omega))
      have Hback9 := Lib.hid back9
      have Hkb8 := Lib.hid hkb8
      have Hs9 := Lib.hid hs9
      clear HM r7 g7 kb7 o7 o8 hkb8 o9 hs9 back9 Ho6 Hback6 Hkb5 Hs6 HF6 q5 p5 f5 q6
      go_wp2_with fail
      refine HPk.out.mono ?_
      rintro e w10 ⟨rfl, o10, kb10⟩
      have o11 := Hback9.out w10 _ kb10 o10
      have Hkb11 := Lib.hid (Hkb8.out.trans (kb10.mono Hs9.out))
      have Ho11 : Hid (Own w10 B (f + 1 + 1) (.slice (some ⟨g, 0, none⟩) kids.length c) (.sl 6 kids.length (rows (markTs (kids.take (j + 1)) k ++ kids.drop (j + 1)))) F) := by
        unfold Hid
        rw [Hmark.out, rows_append, rows, hLL, hRR, markT, row, marks_length, markTs_length]
        exact o11
      clear HPk o10 kb10 o11 Hback9 Hkb8 Hs9 q9
      go_wp2_with fail
      go_roundw
      case rel => exact ⟨j + 1, by omega, by go_num, by rw [Hnext.out]; have := HK.out; congr 1; omega, Ho11.out, Hkb11.out⟩
      case measure => simp [intOf]; omega
    · obtain rfl : j = kids.length := by omega
      rw [List.take_of_length_le (Nat.le_refl _), List.drop_of_length_le (Nat.le_refl _), List.append_nil] at hown
      have Hown := Lib.hid hown
      have Hkb := Lib.hid hkb
      clear hown hkb
      rw [List.take_of_length_le (Nat.le_refl _)]
      go_wp2_with fail
      go_ret
      exact ⟨rfl, Hown.out, Hkb.out⟩
theorem mark_kids : ∀ f, MarkKids f
  | 0 => mark_kids_step (fun f' hf => by omega)
  | f + 1 => mark_kids_step (fun f' hf => by obtain rfl : f = f' := by omega
                                             exact mark_kids f)
end Go.Proofs.YtlnfbpdicjcpgaaDoor.tree
