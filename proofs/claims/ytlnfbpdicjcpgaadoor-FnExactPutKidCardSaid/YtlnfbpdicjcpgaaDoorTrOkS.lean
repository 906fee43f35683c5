/- spec.TreeOk. -/
import Derived.Test.YtlnfbpdicjcpgaaDoorTrShapeS
import Derived.Test.YtlnfbpdicjcpgaaDoorGSz
namespace Go.Proofs.YtlnfbpdicjcpgaaDoor.tree
open Go.ChangeShapes Go.WideShapes Go.ChangeAt Go.RowKit
set_option linter.unusedVariables false

set_option maxRecDepth 100000 in
theorem spec_okay (f : Nat) (t : T) (vs : List Value) (w : World) (h : LiesS w f vs (row t)) (hsz : size t ≤ 1099511627776) :
    Calls Tryd.prog 18 #[.agg vs.toArray] w fun e w' => e = .returned (.bool (dec (Ok t))) ∧ Below w.heap.size w w' := by
  have hdp : depth t ≤ 1099511627776 := Nat.le_trans (depth_le_size t) hsz
  obtain ⟨R, hR⟩ : ∃ R, dec (Ok t) = R := ⟨_, rfl⟩
  rw [hR]
  have HNO := Lib.hid (fun (hne : ¬ (depth t ≤ 8 ∧ size t ≤ 300 ∧ Shape t)) => hR.symm.trans (dec_no hne))
  have HYES := Lib.hid (fun (hy : depth t ≤ 8 ∧ size t ≤ 300 ∧ Shape t) => hR.symm.trans (dec_yes hy))
  clear hR
  have H := Lib.hid h
  have HD := Lib.hid (fun us w1 (hl : LiesS w1 f us (row t)) => spec_depth f t us w1 hl hdp)
  have HS := Lib.hid (fun us w1 (hl : LiesS w1 f us (row t)) => spec_size f t us w1 hl hsz)
  have HH := Lib.hid (fun us w1 (hl : LiesS w1 f us (row t)) => spec_shape f t us w1 hl)
  obtain ⟨k, fl, n, s, ks, kids⟩ := t
  obtain ⟨A1, c1, A2, c2, rfl, _, _, hs, hc1, hc2, hr, hks, hc3, hc4, f', hf, hk⟩ := open_tree h
  clear h hr hk hf hks hs
  generalize hdd : depth (.mk k fl n s ks kids) = d at HNO HYES HD hdp
  generalize hss : size (.mk k fl n s ks kids) = z at HNO HYES HS hsz
  generalize hpp : Shape (.mk k fl n s ks kids) = p at HNO HYES HH
  clear hdd hss hpp
  have HB := Lib.hid (Box.new 29 w [.int .i64 k, .bool fl, .int .i64 n, .string s, .slice A1 ks.length c1, .slice A2 kids.length c2])
  have b0 := HB.out.cell (j := 0) rfl
  have b1 := HB.out.cell (j := 1) rfl
  have b2 := HB.out.cell (j := 2) rfl
  have b3 := HB.out.cell (j := 3) rfl
  have b4 := HB.out.cell (j := 4) rfl
  have b5 := HB.out.cell (j := 5) rfl
  by_cases hd : d ≤ 8
  rotate_left
  · have Hn := Lib.hid (HNO.out (fun h => hd h.1))
    have e1 : decide ((d : Int) ≤ 8) = false := decide_eq_false (by omega)
    clear HNO HYES
    go_enter Tryd.func18, Tryd.ntmps18
    go_wp2_with fail
    refine (HD.out _ _ (H.out.below HB.out.1)).mono ?_
    rintro e w1 ⟨rfl, hb1⟩
    have HB1 := Lib.hid (HB.out.below hb1)
    clear hb1 b0 b1 b2 b3 b4 b5
    go_wp2_with fail
    go_ret
    exact ⟨by rw [Hn.out]; rfl, HB1.out.1⟩
  have e1 : decide ((d : Int) ≤ 8) = true := decide_eq_true (by omega)
  by_cases hz : z ≤ 300
  rotate_left
  · have Hn := Lib.hid (HNO.out (fun h => hz h.2.1))
    have e2 : decide ((z : Int) ≤ 300) = false := decide_eq_false (by omega)
    clear HNO HYES
    go_enter Tryd.func18, Tryd.ntmps18
    go_wp2_with fail
    refine (HD.out _ _ (H.out.below HB.out.1)).mono ?_
    rintro e w1 ⟨rfl, hb1⟩
    have HB1 := Lib.hid (HB.out.below hb1)
    clear hb1 b0 b1 b2 b3 b4 b5
    have b0 := HB1.out.cell (j := 0) rfl
    have b1 := HB1.out.cell (j := 1) rfl
    have b2 := HB1.out.cell (j := 2) rfl
    have b3 := HB1.out.cell (j := 3) rfl
    have b4 := HB1.out.cell (j := 4) rfl
    have b5 := HB1.out.cell (j := 5) rfl
    go_wp2_with fail
    refine (HS.out _ _ (H.out.below HB1.out.1)).mono ?_
    rintro e w2 ⟨rfl, hb2⟩
    have HB2 := Lib.hid (HB1.out.below hb2)
    clear hb2 b0 b1 b2 b3 b4 b5
    go_wp2_with fail
    go_ret
    exact ⟨by rw [Hn.out]; rfl, HB2.out.1⟩
  have e2 : decide ((z : Int) ≤ 300) = true := decide_eq_true (by omega)
  have HP := Lib.hid (show dec p = R by
    by_cases hp : p
    · rw [HYES.out ⟨hd, hz, hp⟩, dec_yes hp]
    · rw [HNO.out (fun h => hp h.2.2), dec_no hp])
  rw [HP.out] at HH
  clear HNO HYES
  go_enter Tryd.func18, Tryd.ntmps18
  go_wp2_with fail
  refine (HD.out _ _ (H.out.below HB.out.1)).mono ?_
  rintro e w1 ⟨rfl, hb1⟩
  have HB1 := Lib.hid (HB.out.below hb1)
  clear hb1 b0 b1 b2 b3 b4 b5
  have b0 := HB1.out.cell (j := 0) rfl
  have b1 := HB1.out.cell (j := 1) rfl
  have b2 := HB1.out.cell (j := 2) rfl
  have b3 := HB1.out.cell (j := 3) rfl
  have b4 := HB1.out.cell (j := 4) rfl
  have b5 := HB1.out.cell (j := 5) rfl
  go_wp2_with fail
  refine (HS.out _ _ (H.out.below HB1.out.1)).mono ?_
  rintro e w2 ⟨rfl, hb2⟩
  have HB2 := Lib.hid (HB1.out.below hb2)
  clear hb2 b0 b1 b2 b3 b4 b5
  have b0 := HB2.out.cell (j := 0) rfl
  have b1 := HB2.out.cell (j := 1) rfl
  have b2 := HB2.out.cell (j := 2) rfl
  have b3 := HB2.out.cell (j := 3) rfl
  have b4 := HB2.out.cell (j := 4) rfl
  have b5 := HB2.out.cell (j := 5) rfl
  go_wp2_with fail
  refine (HH.out _ _ (H.out.below HB2.out.1)).mono ?_
  rintro e w3 ⟨rfl, hb3⟩
  have HB3 := Lib.hid (HB2.out.below hb3)
  clear hb3 b0 b1 b2 b3 b4 b5
  go_wp2_with fail
  go_ret
  exact ⟨rfl, HB3.out.1⟩
end Go.Proofs.YtlnfbpdicjcpgaaDoor.tree
