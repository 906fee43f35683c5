/- spec.KeyAt. -/
import Derived.Test.YtmldigfghiofkaaTreeL
import Derived.Test.YtmldigfghiofkaaRows
import Derived.ProofKit
import Derived.OpenShut
namespace Go.Proofs.Ytmldigfghiofkaa.tree
open Go.ChangeShapes Go.WideShapes Go.ChangeAt Go.RowKit
set_option linter.unusedVariables false

theorem same_yes {a b : ByteArray} (h : a = b) : (a.toList == b.toList) = true := by subst h; simp
theorem same_no {a b : ByteArray} (h : ¬ a = b) : (a.toList == b.toList) = false := by
  rw [beq_eq_false_iff_ne, ByteArray.toList_eq, ByteArray.toList_eq]
  exact fun e => h (by apply ByteArray.ext; exact Array.ext' e)

theorem spec_key {f : Nat} (t : T) (key : ByteArray) (vs : List Value) (w : World) (h : LiesS w f vs (row t)) :
    Calls Try.prog 20 #[.agg vs.toArray, .string key] w fun e w' => e = .returned (.int .i64 (keyAt t key)) ∧ Below w.heap.size w w' := by
  obtain ⟨k, fl, n, s, ks, kids⟩ := t
  obtain ⟨A1, c1, A2, c2, rfl, _, _, _, hc1, hc2, hr, _, hc3, hc4, f', hf, hk⟩ := open_tree h
  unfold maxLen at hc2
  have HB := Lib.hid (Box.new 30 w [.int .i64 k, .bool fl, .int .i64 n, .string s, .slice A1 ks.length c1, .slice A2 kids.length c2])
  have p0 := HB.out.cell (j := 0) rfl
  have p4 := HB.out.cell (j := 4) rfl
  have Hr := Lib.hid hr
  obtain ⟨R, hR⟩ : ∃ R, keyAt (.mk k fl n s ks kids) key = R := ⟨_, rfl⟩
  rw [hR]
  have HR := Lib.hid hR
  clear h hk hr hf hc3 hc4 hR
  by_cases h6 : k = 6
  · subst h6
    have HK := Lib.hid (show keyFrom key ks 0 = R by have := HR.out; simpa [keyAt, T.kind, T.keys] using this)
    clear HR
    go_enter Try.func20, Try.ntmps20
    go_wp2_with fail
    go_loopw [5] (fun i wr => ∃ (j : Nat), j ≤ ks.length ∧ i = .int .i64 j ∧ Hid (∀ m, m < j → ks[m]? ≠ some key) ∧ Box 30 w [.int .i64 6, .bool fl, .int .i64 n, .string s, .slice A1 ks.length c1, .slice A2 kids.length c2] wr) (fun i _ => ks.length - (intOf i).toNat)
    case atStart => exact ⟨0, Nat.zero_le _, rfl, fun m hm => by omega, HB.out⟩
    case round =>
      clear HB p0 p4
      obtain ⟨j, hj, rfl, hm, hbox⟩ := hrel
      have p0 := hbox.cell (j := 0) rfl
      have p4 := hbox.cell (j := 4) rfl
      by_cases hlt : j < ks.length
      · obtain ⟨g, o, rfl, hg, hc0⟩ := (Hr.out.below hbox.1).2 (by omega)
        have hcell := hc0 j hlt _ (scells_get ks j hlt)
        have Hbox := Lib.hid hbox
        clear hc0 hbox hg
        by_cases he : ks[j] = key
        · have Hend := Lib.hid (HK.out.symm.trans (keyFrom_at (by rw [List.getElem?_eq_getElem hlt, he]) hm.out))
          have e1 := same_yes he
          generalize ks[j] = x at hcell e1
          clear he hm
          go_wp2_with fail
          go_ret
          exact ⟨by rw [Hend.out]; rfl, Hbox.out.1⟩
        · have Hm := Lib.hid (show ∀ m, m < j + 1 → ks[m]? ≠ some key from fun m hmj => by
            by_cases e : m = j
            · subst e; rw [List.getElem?_eq_getElem hlt]; exact fun e => he (by injection e)
            · exact hm.out m (by omega))
          have e1 := same_no he
          generalize ks[j] = x at hcell e1
          clear he hm
          go_wp2_with fail
          go_roundw
          case rel => exact ⟨j + 1, by omega, by go_num, Hm.out, Hbox.out⟩
          case measure => simp [intOf]; omega
      · obtain rfl : j = ks.length := by omega
        have Hend := Lib.hid (HK.out.symm.trans (keyFrom_none hm.out))
        have Hbox := Lib.hid hbox
        clear hm hbox
        go_wp2_with fail
        go_ret
        exact ⟨by rw [Hend.out]; rfl, Hbox.out.1⟩
  · have Hend := Lib.hid (show R = -1 by have := HR.out; simp [keyAt, T.kind, h6] at this; exact this.symm)
    have e6 : (k == 6) = false := beq_eq_false_iff_ne.2 h6
    clear HR h6
    go_enter Try.func20, Try.ntmps20
    go_wp2_with fail
    refine wp_loop_rounds 1 ?_
    rw [rounds_succ]
    go_wp2_with fail
    all_goals
      go_ret
      exact ⟨by rw [Hend.out]; rfl, HB.out.1⟩
end Go.Proofs.Ytmldigfghiofkaa.tree
