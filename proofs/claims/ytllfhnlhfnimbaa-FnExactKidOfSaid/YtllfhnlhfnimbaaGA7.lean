/- Merged: TrKeyS TrKeyI. -/
import Derived.Test.YtllfhnlhfnimbaaGA3
import Derived.Test.YtllfhnlhfnimbaaRows
import Derived.ProofKit
import Derived.OpenShut
namespace Go.Proofs.Ytllfhnlhfnimbaa.tree
open Go.ChangeShapes Go.WideShapes Go.ChangeAt Go.RowKit
set_option linter.unusedVariables false

theorem spec_key {f : Nat} (t : T) (key : ByteArray) (vs : List Value) (w : World) (h : LiesS w f vs (row t)) :
    Calls Try.prog 25 #[.agg vs.toArray, .string key] w fun e w' => e = .returned (.int .i64 (keyAt t key)) ∧ Below w.heap.size w w' := by
  obtain ⟨k, fl, n, s, ks, kids⟩ := t
  obtain ⟨A1, c1, A2, c2, rfl, _, _, _, hc1, hc2, hr, _, hc3, hc4, f', hf, hk⟩ := open_tree h
  unfold maxLen at hc2
  have HB := Lib.hid (Box.new 29 w [.int .i64 k, .bool fl, .int .i64 n, .string s, .slice A1 ks.length c1, .slice A2 kids.length c2])
  have p0 := HB.out.cell (j := 0) rfl
  have p4 := HB.out.cell (j := 4) rfl
  have Hr := Lib.hid hr
  obtain ⟨R, hR⟩ : ∃ R, keyAt (.mk k fl n s ks kids) key = R := ⟨_, rfl⟩
  rw [hR]
  have HR := Lib.hid hR
  clear h hk hr hf hc3 hc4 hR
  by_cases h6 : k = 6
  · subst h6
    have HK := Lib.hid (show keyFrom key ks 0 = R by have := HR.out; simpa [keyAt, T.kind, T.keys] using this)
    clear HR
    go_enter Try.func25, Try.ntmps25
    go_wp2_with fail
    go_loopw [5] (fun i wr => ∃ (j : Nat), j ≤ ks.length ∧ i = .int .i64 j ∧ Hid (∀ m, m < j → ks[m]? ≠ some key) ∧ Box 29 w [.int .i64 6, .bool fl, .int .i64 n, .string s, .slice A1 ks.length c1, .slice A2 kids.length c2] wr) (fun i _ => ks.length - (intOf i).toNat)
    case atStart => exact ⟨0, Nat.zero_le _, rfl, fun m hm => by omega, HB.out⟩
    case round =>
      clear HB p0 p4
      obtain ⟨j, hj, rfl, hm, hbox⟩ := hrel
      have p0 := hbox.cell (j := 0) rfl
      have p4 := hbox.cell (j := 4) rfl
      by_cases hlt : j < ks.length
      · obtain ⟨g, o, rfl, hg, hc0⟩ := (Hr.out.below hbox.1).2 (by omega)
        have hcell := hc0 j hlt _ (scells_get ks j hlt)
        have Hbox := Lib.hid hbox
        clear hc0 hbox hg
        by_cases he : ks[j] = key
        · have Hend := Lib.hid (HK.out.symm.trans (keyFrom_at (by rw [List.getElem?_eq_getElem hlt, he]) hm.out))
          have e1 := same_yes he
          generalize ks[j] = x at hcell e1
          clear he hm
          go_wp2_with fail
          go_ret
          exact ⟨by rw [Hend.out]; rfl, Hbox.out.1⟩
        · have Hm := Lib.hid (show ∀ m, m < j + 1 → ks[m]? ≠ some key from fun m hmj => by
            by_cases e : m = j
            · subst e; rw [List.getElem?_eq_getElem hlt]; exact fun e => he (by injection e)
            · exact hm.out m (by omega))
          have e1 := same_no he
          generalize ks[j] = x at hcell e1
          clear he hm
          go_wp2_with fail
          go_roundw
          case rel => exact ⟨j + 1, by omega, by go_num, Hm.out, Hbox.out⟩
          case measure => simp [intOf]; omega
      · obtain rfl : j = ks.length := by omega
        have Hend := Lib.hid (HK.out.symm.trans (keyFrom_none hm.out))
        have Hbox := Lib.hid hbox
        clear hm hbox
        go_wp2_with fail
        go_ret
        exact ⟨by rw [Hend.out]; rfl, Hbox.out.1⟩
  · have Hend := Lib.hid (show R = -1 by have := HR.out; simp [keyAt, T.kind, h6] at this; exact this.symm)
    have e6 : (k == 6) = false := beq_eq_false_iff_ne.2 h6
    clear HR h6
    go_enter Try.func25, Try.ntmps25
    go_wp2_with fail
    refine wp_loop_rounds 1 ?_
    rw [rounds_succ]
    go_wp2_with fail
    all_goals
      go_ret
      exact ⟨by rw [Hend.out]; rfl, HB.out.1⟩
end Go.Proofs.Ytllfhnlhfnimbaa.tree
namespace Go.Proofs.Ytllfhnlhfnimbaa.tree
open Go.ChangeShapes Go.WideShapes Go.ChangeAt Go.RowKit
set_option linter.unusedVariables false

theorem index_str (A : Option Addr) (c : Nat) (ks : List ByteArray) (key : ByteArray) (w : World) (hc : ks.length ≤ c) (hm : c ≤ maxLen) (hr : Rd w A ks.length (scells ks)) :
    Calls Try.prog 38 #[.slice A ks.length c, .string key] w fun e w' => e = .returned (.int .i64 (keyFrom key ks 0)) ∧ w' = w := by
  unfold maxLen at hm
  have Hr := Lib.hid hr
  clear hr
  obtain ⟨R, hR⟩ : ∃ R, keyFrom key ks 0 = R := ⟨_, rfl⟩
  rw [hR]
  have HK := Lib.hid hR
  clear hR
  go_enter Try.func38, Try.ntmps38
  go_wp2_with fail
  go_loop [8] (fun i => ∃ (j : Nat), j ≤ ks.length ∧ i = .int .i64 j ∧ Hid (∀ m, m < j → ks[m]? ≠ some key)) (fun i => ks.length - (intOf i).toNat)
  case atStart => exact ⟨0, Nat.zero_le _, rfl, fun m hm => by omega⟩
  case round =>
    obtain ⟨j, hj, rfl, hm⟩ := hrel
    by_cases hlt : j < ks.length
    · obtain ⟨g, o, rfl, hg, hc0⟩ := Hr.out.2 (by omega)
      have hcell := hc0 j hlt _ (scells_get ks j hlt)
      clear hc0 hg
      by_cases he : ks[j] = key
      · have Hend := Lib.hid (HK.out.symm.trans (keyFrom_at (by rw [List.getElem?_eq_getElem hlt, he]) hm.out))
        have e1 := same_yes' he
        generalize ks[j] = x at hcell e1
        clear he hm
        go_wp2_with fail
        go_ret
        exact ⟨by rw [Hend.out]; rfl, rfl⟩
      · have Hm := Lib.hid (show ∀ m, m < j + 1 → ks[m]? ≠ some key from fun m hmj => by
          by_cases e : m = j
          · subst e; rw [List.getElem?_eq_getElem hlt]; exact fun e => he (by injection e)
          · exact hm.out m (by omega))
        have e1 := same_no' he
        generalize ks[j] = x at hcell e1
        clear he hm
        go_wp2_with fail
        go_round
        case rel => exact ⟨j + 1, by omega, by go_num, Hm.out⟩
        case measure => simp [intOf]; omega
    · obtain rfl : j = ks.length := by omega
      have Hend := Lib.hid (HK.out.symm.trans (keyFrom_none hm.out))
      clear hm
      go_wp2_with fail
      go_ret
      exact ⟨by rw [Hend.out]; rfl, rfl⟩
theorem impl_key {f : Nat} (t : T) (key : ByteArray) (vs : List Value) (w : World) (h : LiesS w f vs (row t)) :
    Calls Try.prog 28 #[.agg vs.toArray, .string key] w fun e w' => e = .returned (.int .i64 (keyAt t key)) ∧ Below w.heap.size w w' := by
  obtain ⟨k, fl, n, s, ks, kids⟩ := t
  obtain ⟨A1, c1, A2, c2, rfl, _, _, _, hc1, hc2, hr, _, hc3, hc4, f', hf, hk⟩ := open_tree h
  have HB := Lib.hid (Box.new 29 w [.int .i64 k, .bool fl, .int .i64 n, .string s, .slice A1 ks.length c1, .slice A2 kids.length c2])
  have p0 := HB.out.cell (j := 0) rfl
  have p4 := HB.out.cell (j := 4) rfl
  have HI := Lib.hid (index_str A1 c1 ks key _ hc1 hc2 (hr.below HB.out.1))
  obtain ⟨R, hR⟩ : ∃ R, keyAt (.mk k fl n s ks kids) key = R := ⟨_, rfl⟩
  rw [hR]
  have HR := Lib.hid hR
  clear h hk hr hf hc1 hc2 hc3 hc4 hR
  by_cases h6 : k = 6
  · subst h6
    have HK := Lib.hid (show keyFrom key ks 0 = R by have := HR.out; simpa [keyAt, T.kind, T.keys] using this)
    rw [HK.out] at HI
    go_enter Try.func28, Try.ntmps28
    go_wp2_with fail
    refine HI.out.mono ?_
    rintro e w1 ⟨rfl, rfl⟩
    go_wp2_with fail
    go_ret
    exact ⟨rfl, HB.out.1⟩
  · have Hend := Lib.hid (show R = -1 by have := HR.out; simp [keyAt, T.kind, h6] at this; exact this.symm)
    have e6 : (k != 6) = true := by simpa using h6
    clear HR h6
    go_enter Try.func28, Try.ntmps28
    go_wp2_with fail
    go_ret
    exact ⟨by rw [Hend.out]; rfl, HB.out.1⟩
end Go.Proofs.Ytllfhnlhfnimbaa.tree
