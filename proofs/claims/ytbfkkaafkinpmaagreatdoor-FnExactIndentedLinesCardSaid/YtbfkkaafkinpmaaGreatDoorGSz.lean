/- Merged: TrSizeS TrDepthS TrOkS. -/
import Derived.Test.YtbfkkaafkinpmaaGreatDoorGTree
import Derived.Test.YtbfkkaafkinpmaaGreatDoorRows
import Derived.ProofKit
import Derived.OpenShut
import Derived.Test.YtbfkkaafkinpmaaGreatDoorTrShapeS
namespace Go.Proofs.YtbfkkaafkinpmaaGreatDoor.tree
open Go.ChangeShapes Go.WideShapes Go.ChangeAt Go.RowKit
set_option linter.unusedVariables false

theorem spec_size : ∀ (f : Nat) (t : T) (vs : List Value) (w : World), LiesS w f vs (row t) → size t ≤ 1099511627776 →
    Calls Tryz.prog 31 #[.agg vs.toArray] w fun e w' => e = .returned (.int .i64 (size t : Nat)) ∧ Below w.heap.size w w'
  | 0, t, vs, w, h, hsz => by
    obtain ⟨k, fl, n, s, ks, kids⟩ := t
    obtain ⟨_, _, _, _, _, _, _, _, _, _, _, _, _, _, f', hf, _⟩ := open_tree h
    omega
  | f + 1, t, vs, w, h, hsz => by
    obtain ⟨k, fl, n, s, ks, kids⟩ := t
    obtain ⟨A1, c1, A2, c2, rfl, _, _, _, hc1, hc2, hr, _, hc3, hc4, f', hf, hk⟩ := open_tree h
    obtain rfl : f = f' := by omega
    have Hk := Lib.hid hk
    unfold maxLen at hc4
    clear h hk hr hf hc1 hc2
    rw [size] at hsz ⊢
    have HB := Lib.hid (Box.new 30 w [.int .i64 k, .bool fl, .int .i64 n, .string s, .slice A1 ks.length c1, .slice A2 kids.length c2])
    have IH := Lib.hid (fun x vs w h h2 => spec_size f x vs w h h2)
    go_enter Tryz.func31, Tryz.ntmps31
    go_wp2_with fail
    go_loopw [3, 4] (fun a i wr => ∃ (j m : Nat), j ≤ kids.length ∧ i = .int .i64 j ∧ a = .int .i64 m ∧ Hid (m = 1 + sizes (kids.take j)) ∧ Box 30 w [.int .i64 k, .bool fl, .int .i64 n, .string s, .slice A1 ks.length c1, .slice A2 kids.length c2] wr) (fun _ i _ => kids.length - (intOf i).toNat)
    case atStart => exact ⟨0, 1, Nat.zero_le _, rfl, rfl, rfl, HB.out⟩
    case round =>
      clear HB
      obtain ⟨j, m, hj, rfl, rfl, hm, hbox⟩ := hrel
      have hc5 : wr.cell? ⟨w.heap.size, 5, none⟩ = some (.slice A2 kids.length c2) := hbox.cell rfl
      by_cases hlt : j < kids.length
      · obtain ⟨g, o, rfl, hg, hkid⟩ := (Hk.out.below hbox.1) (by omega)
        obtain ⟨u0, u1, u2, u3, u4, u5, ⟨q0, q1, q2, q3, q4, q5⟩, hl⟩ := hkid j kids[j] (List.getElem?_eq_getElem hlt)
        have hsz2 : size kids[j] ≤ 1099511627776 ∧ m + size kids[j] ≤ 1099511627776 := by
          have h1 := sizes_le_mem (List.getElem_mem hlt)
          have h2 : sizes kids = sizes (kids.take (j + 1)) + sizes (kids.drop (j + 1)) := by rw [← sizes_append, List.take_append_drop]
          rw [List.take_succ_eq_append_getElem hlt, sizes_append] at h2
          have h3 : sizes [kids[j]] = size kids[j] := by simp [sizes]
          have := hm.out
          omega
        have HC := Lib.hid (IH.out kids[j] _ wr hl hsz2.1)
        have Hm := Lib.hid (show m + size kids[j] = 1 + sizes (kids.take (j + 1)) by
          rw [List.take_succ_eq_append_getElem hlt, sizes_append, hm.out]
          simp only [sizes]
          omega)
        have hsz3 := hsz2.2
        have Hbox := Lib.hid hbox
        clear hsz2 hl hkid hbox hm hg
        generalize size kids[j] = z at HC Hm hsz3
        go_wp2_with fail
        refine HC.out.mono ?_
        rintro e w1 ⟨rfl, hb1⟩
        have Hbox1 := Lib.hid (Hbox.out.below hb1)
        clear HC Hbox hb1 hc5 q0 q1 q2 q3 q4 q5
        go_wp2_with fail
        go_roundw
        case rel => exact ⟨j + 1, m + z, by omega, by go_num, by go_num, Hm.out, Hbox1.out⟩
        case measure => simp [intOf]; omega
      · obtain rfl : j = kids.length := by omega
        rw [List.take_of_length_le (Nat.le_refl _)] at hm
        have HB := Lib.hid hbox.1
        clear hbox
        go_wp2_with fail
        go_ret
        exact ⟨by rw [← hm.out]; rfl, HB.out⟩
end Go.Proofs.YtbfkkaafkinpmaaGreatDoor.tree
namespace Go.Proofs.YtbfkkaafkinpmaaGreatDoor.tree
open Go.ChangeShapes Go.WideShapes Go.ChangeAt Go.RowKit
set_option linter.unusedVariables false

theorem spec_depth : ∀ (f : Nat) (t : T) (vs : List Value) (w : World), LiesS w f vs (row t) → depth t ≤ 1099511627776 →
    Calls Tryz.prog 30 #[.agg vs.toArray] w fun e w' => e = .returned (.int .i64 (depth t : Nat)) ∧ Below w.heap.size w w'
  | 0, t, vs, w, h, hsz => by
    obtain ⟨k, fl, n, s, ks, kids⟩ := t
    obtain ⟨_, _, _, _, _, _, _, _, _, _, _, _, _, _, f', hf, _⟩ := open_tree h
    omega
  | f + 1, t, vs, w, h, hsz => by
    obtain ⟨k, fl, n, s, ks, kids⟩ := t
    obtain ⟨A1, c1, A2, c2, rfl, _, _, _, hc1, hc2, hr, _, hc3, hc4, f', hf, hk⟩ := open_tree h
    obtain rfl : f = f' := by omega
    have Hk := Lib.hid hk
    unfold maxLen at hc4
    clear h hk hr hf hc1 hc2
    rw [depth] at hsz ⊢
    have HB := Lib.hid (Box.new 30 w [.int .i64 k, .bool fl, .int .i64 n, .string s, .slice A1 ks.length c1, .slice A2 kids.length c2])
    have IH := Lib.hid (fun x vs w h h2 => spec_depth f x vs w h h2)
    go_enter Tryz.func30, Tryz.ntmps30
    go_wp2_with fail
    go_loopw [3, 4] (fun a i wr => ∃ (j m : Nat), j ≤ kids.length ∧ i = .int .i64 j ∧ a = .int .i64 m ∧ m ≤ 1099511627776 ∧ Hid (m = depths (kids.take j)) ∧ Box 30 w [.int .i64 k, .bool fl, .int .i64 n, .string s, .slice A1 ks.length c1, .slice A2 kids.length c2] wr) (fun _ i _ => kids.length - (intOf i).toNat)
    case atStart => exact ⟨0, 0, Nat.zero_le _, rfl, rfl, by omega, rfl, HB.out⟩
    case round =>
      clear HB
      obtain ⟨j, m, hj, rfl, rfl, hm0, hm, hbox⟩ := hrel
      have hc5 : wr.cell? ⟨w.heap.size, 5, none⟩ = some (.slice A2 kids.length c2) := hbox.cell rfl
      by_cases hlt : j < kids.length
      · obtain ⟨g, o, rfl, hg, hkid⟩ := (Hk.out.below hbox.1) (by omega)
        obtain ⟨u0, u1, u2, u3, u4, u5, ⟨q0, q1, q2, q3, q4, q5⟩, hl⟩ := hkid j kids[j] (List.getElem?_eq_getElem hlt)
        have hnext : depths (kids.take (j + 1)) = max (depths (kids.take j)) (depth kids[j]) := by
          rw [List.take_succ_eq_append_getElem hlt, depths_append]
          simp [depths]
        have hsz2 : depth kids[j] ≤ 1099511627776 := by
          have h2 : depths kids = max (depths (kids.take (j + 1))) (depths (kids.drop (j + 1))) := by rw [← depths_append, List.take_append_drop]
          omega
        have HC := Lib.hid (IH.out kids[j] _ wr hl hsz2)
        have Hm := Lib.hid (show depths (kids.take (j + 1)) = max m (depth kids[j]) by rw [hnext, hm.out])
        have Hbox := Lib.hid hbox
        clear hl hkid hbox hm hg hnext
        generalize depth kids[j] = z at HC Hm hsz2
        by_cases hz : m < z
        · go_wp2_with fail
          refine HC.out.mono ?_
          rintro e w1 ⟨rfl, hb1⟩
          have Hbox1 := Lib.hid (Hbox.out.below hb1)
          clear HC Hbox hb1 hc5 q0 q1 q2 q3 q4 q5
          go_wp2_with fail
          go_roundw
          case rel => exact ⟨j + 1, z, by omega, by go_num, by go_num, hsz2, by unfold Hid; rw [Hm.out]; omega, Hbox1.out⟩
          case measure => simp [intOf]; omega
        · go_wp2_with fail
          refine HC.out.mono ?_
          rintro e w1 ⟨rfl, hb1⟩
          have Hbox1 := Lib.hid (Hbox.out.below hb1)
          clear HC Hbox hb1 hc5 q0 q1 q2 q3 q4 q5
          go_wp2_with fail
          go_roundw
          case rel => exact ⟨j + 1, m, by omega, by go_num, by go_num, hm0, by unfold Hid; rw [Hm.out]; omega, Hbox1.out⟩
          case measure => simp [intOf]; omega
      · obtain rfl : j = kids.length := by omega
        rw [List.take_of_length_le (Nat.le_refl _)] at hm
        have HB := Lib.hid hbox.1
        clear hbox
        go_wp2_with fail
        go_ret
        exact ⟨by rw [← hm.out]; rfl, HB.out⟩
end Go.Proofs.YtbfkkaafkinpmaaGreatDoor.tree
namespace Go.Proofs.YtbfkkaafkinpmaaGreatDoor.tree
open Go.ChangeShapes Go.WideShapes Go.ChangeAt Go.RowKit
set_option linter.unusedVariables false

set_option maxRecDepth 100000 in
theorem spec_okay (f : Nat) (t : T) (vs : List Value) (w : World) (h : LiesS w f vs (row t)) (hsz : size t ≤ 1099511627776) :
    Calls Tryz.prog 18 #[.agg vs.toArray] w fun e w' => e = .returned (.bool (dec (Ok t))) ∧ Below w.heap.size w w' := by
  have hdp : depth t ≤ 1099511627776 := Nat.le_trans (depth_le_size t) hsz
  obtain ⟨R, hR⟩ : ∃ R, dec (Ok t) = R := ⟨_, rfl⟩
  rw [hR]
  have HNO := Lib.hid (fun (hne : ¬ (depth t ≤ 8 ∧ size t ≤ 300 ∧ Shape t)) => hR.symm.trans (dec_no hne))
  have HYES := Lib.hid (fun (hy : depth t ≤ 8 ∧ size t ≤ 300 ∧ Shape t) => hR.symm.trans (dec_yes hy))
  clear hR
  have H := Lib.hid h
  have HD := Lib.hid (fun us w1 (hl : LiesS w1 f us (row t)) => spec_depth f t us w1 hl hdp)
  have HS := Lib.hid (fun us w1 (hl : LiesS w1 f us (row t)) => spec_size f t us w1 hl hsz)
  have HH := Lib.hid (fun us w1 (hl : LiesS w1 f us (row t)) => spec_shape f t us w1 hl)
  obtain ⟨k, fl, n, s, ks, kids⟩ := t
  obtain ⟨A1, c1, A2, c2, rfl, _, _, hs, hc1, hc2, hr, hks, hc3, hc4, f', hf, hk⟩ := open_tree h
  clear h hr hk hf hks hs
  generalize hdd : depth (.mk k fl n s ks kids) = d at HNO HYES HD hdp
  generalize hss : size (.mk k fl n s ks kids) = z at HNO HYES HS hsz
  generalize hpp : Shape (.mk k fl n s ks kids) = p at HNO HYES HH
  clear hdd hss hpp
  have HB := Lib.hid (Box.new 30 w [.int .i64 k, .bool fl, .int .i64 n, .string s, .slice A1 ks.length c1, .slice A2 kids.length c2])
  have b0 := HB.out.cell (j := 0) rfl
  have b1 := HB.out.cell (j := 1) rfl
  have b2 := HB.out.cell (j := 2) rfl
  have b3 := HB.out.cell (j := 3) rfl
  have b4 := HB.out.cell (j := 4) rfl
  have b5 := HB.out.cell (j := 5) rfl
  by_cases hd : d ≤ 8
  rotate_left
  · have Hn := Lib.hid (HNO.out (fun h => hd h.1))
    have e1 : decide ((d : Int) ≤ 8) = false := decide_eq_false (by omega)
    clear HNO HYES
    go_enter Tryz.func18, Tryz.ntmps18
    go_wp2_with fail
    refine (HD.out _ _ (H.out.below HB.out.1)).mono ?_
    rintro e w1 ⟨rfl, hb1⟩
    have HB1 := Lib.hid (HB.out.below hb1)
    clear hb1 b0 b1 b2 b3 b4 b5
    go_wp2_with fail
    go_ret
    exact ⟨by rw [Hn.out]; rfl, HB1.out.1⟩
  have e1 : decide ((d : Int) ≤ 8) = true := decide_eq_true (by omega)
  by_cases hz : z ≤ 300
  rotate_left
  · have Hn := Lib.hid (HNO.out (fun h => hz h.2.1))
    have e2 : decide ((z : Int) ≤ 300) = false := decide_eq_false (by omega)
    clear HNO HYES
    go_enter Tryz.func18, Tryz.ntmps18
    go_wp2_with fail
    refine (HD.out _ _ (H.out.below HB.out.1)).mono ?_
    rintro e w1 ⟨rfl, hb1⟩
    have HB1 := Lib.hid (HB.out.below hb1)
    clear hb1 b0 b1 b2 b3 b4 b5
    have b0 := HB1.out.cell (j := 0) rfl
    have b1 := HB1.out.cell (j := 1) rfl
    have b2 := HB1.out.cell (j := 2) rfl
    have b3 := HB1.out.cell (j := 3) rfl
    have b4 := HB1.out.cell (j := 4) rfl
    have b5 := HB1.out.cell (j := 5) rfl
    go_wp2_with fail
    refine (HS.out _ _ (H.out.below HB1.out.1)).mono ?_
    rintro e w2 ⟨rfl, hb2⟩
    have HB2 := Lib.hid (HB1.out.below hb2)
    clear hb2 b0 b1 b2 b3 b4 b5
    go_wp2_with fail
    go_ret
    exact ⟨by rw [Hn.out]; rfl, HB2.out.1⟩
  have e2 : decide ((z : Int) ≤ 300) = true := decide_eq_true (by omega)
  have HP := Lib.hid (show dec p = R by
    by_cases hp : p
    · rw [HYES.out ⟨hd, hz, hp⟩, dec_yes hp]
    · rw [HNO.out (fun h => hp h.2.2), dec_no hp])
  rw [HP.out] at HH
  clear HNO HYES
  go_enter Tryz.func18, Tryz.ntmps18
  go_wp2_with fail
  refine (HD.out _ _ (H.out.below HB.out.1)).mono ?_
  rintro e w1 ⟨rfl, hb1⟩
  have HB1 := Lib.hid (HB.out.below hb1)
  clear hb1 b0 b1 b2 b3 b4 b5
  have b0 := HB1.out.cell (j := 0) rfl
  have b1 := HB1.out.cell (j := 1) rfl
  have b2 := HB1.out.cell (j := 2) rfl
  have b3 := HB1.out.cell (j := 3) rfl
  have b4 := HB1.out.cell (j := 4) rfl
  have b5 := HB1.out.cell (j := 5) rfl
  go_wp2_with fail
  refine (HS.out _ _ (H.out.below HB1.out.1)).mono ?_
  rintro e w2 ⟨rfl, hb2⟩
  have HB2 := Lib.hid (HB1.out.below hb2)
  clear hb2 b0 b1 b2 b3 b4 b5
  have b0 := HB2.out.cell (j := 0) rfl
  have b1 := HB2.out.cell (j := 1) rfl
  have b2 := HB2.out.cell (j := 2) rfl
  have b3 := HB2.out.cell (j := 3) rfl
  have b4 := HB2.out.cell (j := 4) rfl
  have b5 := HB2.out.cell (j := 5) rfl
  go_wp2_with fail
  refine (HH.out _ _ (H.out.below HB2.out.1)).mono ?_
  rintro e w3 ⟨rfl, hb3⟩
  have HB3 := Lib.hid (HB2.out.below hb3)
  clear hb3 b0 b1 b2 b3 b4 b5
  go_wp2_with fail
  go_ret
  exact ⟨rfl, HB3.out.1⟩
end Go.Proofs.YtbfkkaafkinpmaaGreatDoor.tree
