/- Merged: SlEqI TrFldI. -/
import Derived.Test.YtbfkkaafkinpmaaGreatDoorGTree
import Derived.Test.YtbfkkaafkinpmaaGreatDoorSameB
import Derived.Test.YtbfkkaafkinpmaaGreatDoorRows
import Derived.ProofKit
import Derived.OpenShut
namespace Go.Proofs.YtbfkkaafkinpmaaGreatDoor.tree
open Go.ChangeShapes Go.WideShapes Go.ChangeAt Go.RowKit
set_option linter.unusedVariables false

theorem keys_ne {a b : List ByteArray} {j : Nat} (ha : j < a.length) (hb : j < b.length) (h : ¬ a[j] = b[j]) : a ≠ b := by
  rintro rfl
  exact h rfl
theorem keys_eq {a b : List ByteArray} (hl : a.length = b.length) (h : ∀ m, m < a.length → a[m]? = b[m]?) : a = b := by
  apply List.ext_getElem? fun m => ?_
  by_cases hm : m < a.length
  · exact h m hm
  · rw [List.getElem?_eq_none (by omega), List.getElem?_eq_none (by omega)]
theorem equal_strs (A B : Option Addr) (c d : Nat) (ks ls : List ByteArray) (w : World) (hc : ks.length ≤ c) (hcm : c ≤ maxLen) (hd : ls.length ≤ d) (hdm : d ≤ maxLen) (hr : Rd w A ks.length (scells ks)) (hr' : Rd w B ls.length (scells ls)) :
    Calls Tryz.prog 58 #[.slice A ks.length c, .slice B ls.length d] w fun e w' => e = .returned (.bool (decide (ks = ls))) ∧ ∃ n, w' = w.drewN n := by
  unfold maxLen at hcm hdm
  have Hr := Lib.hid hr
  have Hr' := Lib.hid hr'
  clear hr hr'
  obtain ⟨R, hR⟩ : ∃ R, decide (ks = ls) = R := ⟨_, rfl⟩
  rw [hR]
  have HR := Lib.hid hR
  clear hR
  by_cases hl : ks.length = ls.length
  · have e1 : (((ks.length : Nat) : Int) != (ls.length : Nat)) = false := by simp [hl]
    have Hl := Lib.hid hl
    clear hl
    go_enter Tryz.func58, Tryz.ntmps58
    go_wp2_with fail
    go_loopw [13] (fun i wr => ∃ (j : Nat), j ≤ ks.length ∧ i = .int .i64 j ∧ Hid (∀ m, m < j → ks[m]? = ls[m]?) ∧ ∃ q, wr = w.drewN q) (fun i _ => ks.length - (intOf i).toNat)
    case atStart => exact ⟨0, Nat.zero_le _, rfl, fun m hm => by omega, 0, rfl⟩
    case round =>
      clear e1
      obtain ⟨j, hj, rfl, hm, q, rfl⟩ := hrel
      by_cases hlt : j < ks.length
      · have hlt' : j < ls.length := by rw [← Hl.out]; exact hlt
        obtain ⟨g, o, rfl, hg, hc0⟩ := Hr.out.2 (by omega)
        have hcell := hc0 j hlt _ (scells_get ks j hlt)
        obtain ⟨g', o', rfl, hg', hc0'⟩ := Hr'.out.2 (by omega)
        have hcell' := hc0' j hlt' _ (scells_get ls j hlt')
        clear hc0 hg hc0' hg'
        by_cases he : ks[j] = ls[j]
        · have Hm := Lib.hid (show ∀ m, m < j + 1 → ks[m]? = ls[m]? from fun m hmj => by
            by_cases e : m = j
            · subst e; rw [List.getElem?_eq_getElem hlt, List.getElem?_eq_getElem hlt', he]
            · exact hm.out m (by omega))
          rw [he] at hcell
          generalize ls[j] = x at hcell hcell'
          clear he hm
          go_wp2_with fail
          go_quiet (fail)
          go_wp2_with fail
          go_roundw
          case rel => exact ⟨j + 1, by omega, by go_num, Hm.out, _, rfl⟩
          case measure => simp [intOf]; omega
        · have Hend := Lib.hid (show R = false by rw [← HR.out]; exact decide_eq_false (keys_ne hlt hlt' he))
          have e1 : (!(ks[j].toList == ls[j].toList)) = true := by rw [same_no he]; rfl
          have e2 := same_no he
          generalize ks[j] = x at hcell e1 e2
          generalize ls[j] = y at hcell' e1 e2
          clear he hm
          go_wp2_with fail
          go_quiet (fail)
          go_wp2_with fail
          go_ret
          refine ⟨by rw [Hend.out]; rfl, q + nq, ?_⟩
          simp [World.drewN, Nat.add_assoc]
      · obtain rfl : j = ks.length := by omega
        have Hend := Lib.hid (show R = true by rw [← HR.out]; exact decide_eq_true (keys_eq Hl.out hm.out))
        clear hm
        go_wp2_with fail
        go_ret
        exact ⟨by rw [Hend.out]; rfl, _, rfl⟩
  · have e1 : (((ks.length : Nat) : Int) != (ls.length : Nat)) = true := by
      have : ((ks.length : Nat) : Int) ≠ (ls.length : Nat) := by omega
      simpa using this
    have Hend := Lib.hid (show R = false by rw [← HR.out]; exact decide_eq_false (fun e => hl (by rw [e])))
    clear hl
    go_enter Tryz.func58, Tryz.ntmps58
    go_wp2_with fail
    go_ret
    exact ⟨by rw [Hend.out]; rfl, 0, rfl⟩
end Go.Proofs.YtbfkkaafkinpmaaGreatDoor.tree
namespace Go.Proofs.YtbfkkaafkinpmaaGreatDoor.tree
open Go.ChangeShapes Go.WideShapes Go.ChangeAt Go.RowKit
set_option linter.unusedVariables false

def sameF : T → T → Bool
  | .mk k f n s ks kids, .mk k' f' n' s' ks' kids' => decide (k = k' ∧ f = f' ∧ n = n' ∧ s = s' ∧ ks = ks' ∧ kids.length = kids'.length)

set_option maxRecDepth 100000 in
set_option maxHeartbeats 8000000 in
theorem impl_fields {f g : Nat} (a b : T) (vs us : List Value) (w : World) (h1 : LiesS w f vs (row a)) (h2 : LiesS w g us (row b)) :
    Calls Tryz.prog 48 #[.agg vs.toArray, .agg us.toArray] w fun e w' => e = .returned (.bool (sameF a b)) ∧ Below w.heap.size w w' := by
  obtain ⟨k, fl, n, s, ks, kids⟩ := a
  obtain ⟨k', fl', n', s', ks', kids'⟩ := b
  obtain ⟨A1, c1, A2, c2, rfl, _, _, hs, hc1, hc2, hr, _, hc3, hc4, f', hf, hk⟩ := open_tree h1
  obtain ⟨B1, d1, B2, d2, rfl, _, _, hs', hd1, hd2, hr', _, hd3, hd4, g', hf', hk'⟩ := open_tree h2
  clear h1 h2 hf hf' hk hk'
  obtain ⟨w1, hw1⟩ : ∃ w1, w1 = (w.alloc (.cells #[.int .i64 k, .bool fl, .int .i64 n, .string s, .slice A1 ks.length c1, .slice A2 kids.length c2] 30)).alloc (.cells #[.int .i64 k', .bool fl', .int .i64 n', .string s', .slice B1 ks'.length d1, .slice B2 kids'.length d2] 30) := ⟨_, rfl⟩
  have hb1 : Below w.heap.size w w1 := by subst hw1; exact ((Below.refl _ _).alloc (Nat.le_refl _) _).alloc (by simp) _
  have hp : Row6 w1 w.heap.size (.int .i64 k) (.bool fl) (.int .i64 n) (.string s) (.slice A1 ks.length c1) (.slice A2 kids.length c2) := by
    subst hw1
    exact Row6.below (Row6.of (heap_alloc_new w _)) ((Below.refl _ _).alloc (Nat.le_refl _) _)
  have hq : Row6 w1 (w.heap.size + 1) (.int .i64 k') (.bool fl') (.int .i64 n') (.string s') (.slice B1 ks'.length d1) (.slice B2 kids'.length d2) := by
    subst hw1
    have h := Row6.of (heap_alloc_new (w.alloc (.cells #[.int .i64 k, .bool fl, .int .i64 n, .string s, .slice A1 ks.length c1, .slice A2 kids.length c2] 30)) (.cells #[.int .i64 k', .bool fl', .int .i64 n', .string s', .slice B1 ks'.length d1, .slice B2 kids'.length d2] 30))
    simpa using h
  have HQ := Lib.hid (equal_strs A1 B1 c1 d1 ks ks' w1 hc1 hc2 hd1 hd2 (hr.below hb1) (hr'.below hb1))
  have Hw1 := Lib.hid hw1
  have Hb1 := Lib.hid hb1
  have Hp := Lib.hid hp
  have Hq := Lib.hid hq
  obtain ⟨R, hR⟩ : ∃ R, sameF (.mk k fl n s ks kids) (.mk k' fl' n' s' ks' kids') = R := ⟨_, rfl⟩
  rw [hR]
  have HX := Lib.hid (fun (hne : ¬ (k = k' ∧ fl = fl' ∧ n = n' ∧ s = s' ∧ ks = ks' ∧ kids.length = kids'.length)) => show R = false from hR.symm.trans (decide_eq_false hne))
  have HY := Lib.hid (fun (hyes : k = k' ∧ fl = fl' ∧ n = n' ∧ s = s' ∧ ks = ks' ∧ kids.length = kids'.length) => show R = true from hR.symm.trans (decide_eq_true hyes))
  clear hw1 hb1 hp hq hr hr' hR hs hs' hc1 hc2 hc3 hc4 hd1 hd2 hd3 hd4
  obtain ⟨p0, p1, p2, p3, p4, p5⟩ := Hp.out
  obtain ⟨q0, q1, q2, q3, q4, q5⟩ := Hq.out
  rw [Hw1.out] at p0 p1 p2 p3 p4 p5 q0 q1 q2 q3 q4 q5 Hb1
  by_cases h1 : k = k'
  · have e1 : (k == k') = true := by simpa using h1
    by_cases h2 : fl = fl'
    · have e2 : (fl == fl') = true := by simpa using h2
      by_cases h3 : n = n'
      · have e3 : (n == n') = true := by simpa using h3
        by_cases h4 : s = s'
        · have e4 : (s.toList == s'.toList) = true := same_yes h4
          by_cases h5 : ks = ks'
          · rw [decide_eq_true h5] at HQ
            by_cases h6 : kids.length = kids'.length
            · have e6 : (((kids.length : Nat) : Int) == (kids'.length : Nat)) = true := by rw [h6]; simp
              have Hend := Lib.hid (HY.out ⟨h1, h2, h3, h4, h5, h6⟩)
              clear h1 h2 h3 h4 h5 h6 HX HY
              go_enter Tryz.func48, Tryz.ntmps48
              go_wp2_with fail
              rw [← Hw1.out]
              refine HQ.out.mono ?_
              rintro e w2 ⟨rfl, nq, rfl⟩
              rw [Hw1.out]
              go_wp2_with fail
              go_ret
              exact ⟨by rw [Hend.out]; rfl, below_drewN Hb1.out _⟩
            · have e6 : (((kids.length : Nat) : Int) == (kids'.length : Nat)) = false := beq_eq_false_iff_ne.2 (by omega)
              have Hend := Lib.hid (HX.out (fun h => h6 h.2.2.2.2.2))
              clear h1 h2 h3 h4 h5 h6 HX HY
              go_enter Tryz.func48, Tryz.ntmps48
              go_wp2_with fail
              rw [← Hw1.out]
              refine HQ.out.mono ?_
              rintro e w2 ⟨rfl, nq, rfl⟩
              rw [Hw1.out]
              go_wp2_with fail
              go_ret
              exact ⟨by rw [Hend.out]; rfl, below_drewN Hb1.out _⟩
          · rw [decide_eq_false h5] at HQ
            have Hend := Lib.hid (HX.out (fun h => h5 h.2.2.2.2.1))
            clear h1 h2 h3 h4 h5 HX HY
            go_enter Tryz.func48, Tryz.ntmps48
            go_wp2_with fail
            rw [← Hw1.out]
            refine HQ.out.mono ?_
            rintro e w2 ⟨rfl, nq, rfl⟩
            rw [Hw1.out]
            go_wp2_with fail
            go_ret
            exact ⟨by rw [Hend.out]; rfl, below_drewN Hb1.out _⟩
        · have e4 : (s.toList == s'.toList) = false := same_no h4
          have Hend := Lib.hid (HX.out (fun h => h4 h.2.2.2.1))
          clear h1 h2 h3 h4 HX HY HQ
          go_enter Tryz.func48, Tryz.ntmps48
          go_wp2_with fail
          go_ret
          exact ⟨by rw [Hend.out]; rfl, Hb1.out⟩
      · have e3 : (n == n') = false := beq_eq_false_iff_ne.2 h3
        have Hend := Lib.hid (HX.out (fun h => h3 h.2.2.1))
        clear h1 h2 h3 HX HY HQ
        go_enter Tryz.func48, Tryz.ntmps48
        go_wp2_with fail
        go_ret
        exact ⟨by rw [Hend.out]; rfl, Hb1.out⟩
    · have e2 : (fl == fl') = false := beq_eq_false_iff_ne.2 h2
      have Hend := Lib.hid (HX.out (fun h => h2 h.2.1))
      clear h1 h2 HX HY HQ
      go_enter Tryz.func48, Tryz.ntmps48
      go_wp2_with fail
      go_ret
      exact ⟨by rw [Hend.out]; rfl, Hb1.out⟩
  · have e1 : (k == k') = false := beq_eq_false_iff_ne.2 h1
    have Hend := Lib.hid (HX.out (fun h => h1 h.1))
    clear h1 HX HY HQ
    go_enter Tryz.func48, Tryz.ntmps48
    go_wp2_with fail
    go_ret
    exact ⟨by rw [Hend.out]; rfl, Hb1.out⟩
end Go.Proofs.YtbfkkaafkinpmaaGreatDoor.tree
