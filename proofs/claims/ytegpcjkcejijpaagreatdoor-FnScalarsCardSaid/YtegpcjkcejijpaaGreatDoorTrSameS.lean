/- spec.SameTree: two trees, compared. -/
import Derived.Test.YtegpcjkcejijpaaGreatDoorGTree
import Derived.Test.YtegpcjkcejijpaaGreatDoorGMk
import Derived.BigQuiet
import Derived.Test.YtegpcjkcejijpaaGreatDoorRows
import Derived.ProofKit
import Derived.OpenShut
namespace Go.Proofs.YtegpcjkcejijpaaGreatDoor.tree
open Go.ChangeShapes Go.WideShapes Go.ChangeAt Go.RowKit
set_option linter.unusedVariables false

open Classical in
noncomputable def same (a b : T) : Bool := decide (a = b)
theorem same_refl (a : T) : same a a = true := by unfold same; simp
theorem same_ne {a b : T} (h : a ≠ b) : same a b = false := by unfold same; simp [h]
theorem T.ext_iff {k k' : Int} {f f' : Bool} {n n' : Int} {s s' : ByteArray} {ks ks' : List ByteArray} {ki ki' : List T} : T.mk k f n s ks ki = T.mk k' f' n' s' ks' ki' ↔ k = k' ∧ f = f' ∧ n = n' ∧ s = s' ∧ ks = ks' ∧ ki = ki' := by simp

set_option maxRecDepth 100000 in
set_option maxHeartbeats 4000000 in
theorem spec_same : ∀ (f : Nat) (a b : T) (vs us : List Value) (w : World), LiesS w f vs (row a) → LiesS w f us (row b) →
    Calls Tryz.prog 23 #[.agg vs.toArray, .agg us.toArray] w fun e w' => e = .returned (.bool (same a b)) ∧ Below w.heap.size w w'
  | 0, a, b, vs, us, w, h, _ => by
    obtain ⟨k, fl, n, s, ks, kids⟩ := a
    obtain ⟨_, _, _, _, _, _, _, _, _, _, _, _, _, _, f', hf, _⟩ := open_tree h
    omega
  | f + 1, a, b, vs, us, w, h1, h2 => by
    obtain ⟨k, fl, n, s, ks, kids⟩ := a
    obtain ⟨k', fl', n', s', ks', kids'⟩ := b
    obtain ⟨A1, c1, A2, c2, rfl, _, _, hs, hc1, hc2, hr, _, hc3, hc4, f', hf, hk⟩ := open_tree h1
    obtain rfl : f = f' := by omega
    obtain ⟨B1, d1, B2, d2, rfl, _, _, hs', hd1, hd2, hr', _, hd3, hd4, f', hf, hk'⟩ := open_tree h2
    obtain rfl : f = f' := by omega
    clear h1 h2 hf
    unfold maxLen at hc2 hc4 hd2 hd4
    obtain ⟨w1, hw1⟩ : ∃ w1, w1 = (w.alloc (.cells #[.int .i64 k, .bool fl, .int .i64 n, .string s, .slice A1 ks.length c1, .slice A2 kids.length c2] 34)).alloc (.cells #[.int .i64 k', .bool fl', .int .i64 n', .string s', .slice B1 ks'.length d1, .slice B2 kids'.length d2] 34) := ⟨_, rfl⟩
    have hb1 : Below w.heap.size w w1 := by subst hw1; exact ((Below.refl _ _).alloc (Nat.le_refl _) _).alloc (by simp) _
    have hp : Row6 w1 w.heap.size (.int .i64 k) (.bool fl) (.int .i64 n) (.string s) (.slice A1 ks.length c1) (.slice A2 kids.length c2) := by
      subst hw1
      exact Row6.below (Row6.of (heap_alloc_new w _)) ((Below.refl _ _).alloc (Nat.le_refl _) _)
    have hq : Row6 w1 (w.heap.size + 1) (.int .i64 k') (.bool fl') (.int .i64 n') (.string s') (.slice B1 ks'.length d1) (.slice B2 kids'.length d2) := by
      subst hw1
      have h := Row6.of (heap_alloc_new (w.alloc (.cells #[.int .i64 k, .bool fl, .int .i64 n, .string s, .slice A1 ks.length c1, .slice A2 kids.length c2] 34)) (.cells #[.int .i64 k', .bool fl', .int .i64 n', .string s', .slice B1 ks'.length d1, .slice B2 kids'.length d2] 34))
      simpa using h
    have Hw1 := Lib.hid hw1
    have Hb1 := Lib.hid hb1
    have Hp := Lib.hid hp
    have Hq := Lib.hid hq
    have Hr := Lib.hid (hr.below hb1)
    have Hr' := Lib.hid (hr'.below hb1)
    have Hk := Lib.hid (hk.below hb1)
    have Hk' := Lib.hid (hk'.below hb1)
    have IH := Lib.hid (fun x y vs us w h1 h2 => spec_same f x y vs us w h1 h2)
    obtain ⟨R, hR⟩ : ∃ R, same (.mk k fl n s ks kids) (.mk k' fl' n' s' ks' kids') = R := ⟨_, rfl⟩
    rw [hR]
    have HR := Lib.hid hR
    clear hw1 hb1 hp hq hr hr' hk hk' hR hs hs'
    obtain ⟨p0, p1, p2, p3, p4, p5⟩ := Hp.out
    obtain ⟨q0, q1, q2, q3, q4, q5⟩ := Hq.out
    rw [Hw1.out] at p0 p1 p2 p3 p4 p5 q0 q1 q2 q3 q4 q5
    have HX := Lib.hid (fun (hne : ¬ (k = k' ∧ fl = fl' ∧ n = n' ∧ s = s' ∧ ks = ks' ∧ kids = kids')) => HR.out.symm.trans (same_ne (fun e => hne (T.ext_iff.1 e))))
    have HY := Lib.hid (fun (hyes : k = k' ∧ fl = fl' ∧ n = n' ∧ s = s' ∧ ks = ks' ∧ kids = kids') => HR.out.symm.trans (by rw [T.ext_iff.2 hyes, same_refl]))
    rw [Hw1.out] at Hb1
    clear HR
    by_cases h1 : k = k'
    rotate_left
    · have Hno := Lib.hid (HX.out (fun h => h1 h.1))
      have e1 : (k == k') = false := beq_eq_false_iff_ne.2 h1
      clear HX HY
      go_enter Tryz.func23, Tryz.ntmps23
      go_wp2_with fail
      go_ret
      exact ⟨by rw [Hno.out]; rfl, ((Below.refl _ _).alloc (Nat.le_refl _) _).alloc (by simp) _⟩
    subst h1
    by_cases h2 : fl = fl'
    rotate_left
    · have Hno := Lib.hid (HX.out (fun h => h2 h.2.1))
      have e2 : (fl == fl') = false := beq_eq_false_iff_ne.2 h2
      clear HX HY
      go_enter Tryz.func23, Tryz.ntmps23
      go_wp2_with fail
      go_ret
      exact ⟨by rw [Hno.out]; rfl, ((Below.refl _ _).alloc (Nat.le_refl _) _).alloc (by simp) _⟩
    subst h2
    by_cases h3 : n = n'
    rotate_left
    · have Hno := Lib.hid (HX.out (fun h => h3 h.2.2.1))
      have e3 : (n == n') = false := beq_eq_false_iff_ne.2 h3
      clear HX HY
      go_enter Tryz.func23, Tryz.ntmps23
      go_wp2_with fail
      go_ret
      exact ⟨by rw [Hno.out]; rfl, ((Below.refl _ _).alloc (Nat.le_refl _) _).alloc (by simp) _⟩
    subst h3
    by_cases h4 : s = s'
    rotate_left
    · have Hno := Lib.hid (HX.out (fun h => h4 h.2.2.2.1))
      have e4 := same_no h4
      clear HX HY
      go_enter Tryz.func23, Tryz.ntmps23
      go_wp2_with fail
      go_ret
      exact ⟨by rw [Hno.out]; rfl, ((Below.refl _ _).alloc (Nat.le_refl _) _).alloc (by simp) _⟩
    subst h4
    by_cases h5 : ks.length = ks'.length
    rotate_left
    · have Hno := Lib.hid (HX.out (fun h => h5 (by rw [h.2.2.2.2.1])))
      have e5 : ((ks.length : Int) == ks'.length) = false := by rw [beq_eq_false_iff_ne]; omega
      clear HX HY
      go_enter Tryz.func23, Tryz.ntmps23
      go_wp2_with fail
      go_ret
      exact ⟨by rw [Hno.out]; rfl, ((Below.refl _ _).alloc (Nat.le_refl _) _).alloc (by simp) _⟩
    by_cases h6 : kids.length = kids'.length
    rotate_left
    · have Hno := Lib.hid (HX.out (fun h => h6 (by rw [h.2.2.2.2.2])))
      have e6 : ((kids.length : Int) == kids'.length) = false := by rw [beq_eq_false_iff_ne]; omega
      clear HX HY
      go_enter Tryz.func23, Tryz.ntmps23
      go_wp2_with fail
      go_ret
      exact ⟨by rw [Hno.out]; rfl, ((Below.refl _ _).alloc (Nat.le_refl _) _).alloc (by simp) _⟩
    have e4 := same_yes (rfl : s = s)
    rw [← Hw1.out] at Hb1
    rw [← h5, ← h6] at Hw1 p0 p1 p2 p3 p4 p5 q0 q1 q2 q3 q4 q5
    rw [← h5] at hd1
    rw [← h6] at hd3
    rw [← h5, ← h6]
    have Hq' := Lib.hid (show Row6 w1 (w.heap.size + 1) (.int .i64 k) (.bool fl) (.int .i64 n) (.string s) (.slice B1 ks.length d1) (.slice B2 kids.length d2) by rw [h5, h6]; exact Hq.out)
    clear Hq
    have H5 := Lib.hid h5
    have H6 := Lib.hid h6
    clear h5 h6
    go_enter Tryz.func23, Tryz.ntmps23
    go_wp2_with fail
    rw [← Hw1.out]
    clear p0 p1 p2 p3 p4 p5 q0 q1 q2 q3 q4 q5 e4 Hw1
    go_loopw [5] (fun i wr => ∃ (j q : Nat), j ≤ ks.length ∧ i = .int .i64 j ∧ wr = w1.drewN q ∧ Hid (∀ m, m < j → ks[m]? = ks'[m]?)) (fun i _ => ks.length - (intOf i).toNat)
    case atStart => exact ⟨0, 0, Nat.zero_le _, rfl, rfl, fun m hm => by omega⟩
    case round =>
      obtain ⟨j, q, hj, rfl, rfl, hm⟩ := hrel
      obtain ⟨p0, p1, p2, p3, p4, p5⟩ := Hp.out
      obtain ⟨q0, q1, q2, q3, q4, q5⟩ := Hq'.out
      by_cases hlt : j < ks.length
      · have hlt' : j < ks'.length := by have := H5.out; omega
        obtain ⟨g1, o1, rfl, _, hcA⟩ := Hr.out.2 (by omega)
        obtain ⟨g2, o2, rfl, _, hcB⟩ := Hr'.out.2 (by have := H5.out; omega)
        have r1 := hcA j hlt _ (scells_get ks j hlt)
        have r2 := hcB j hlt' _ (scells_get ks' j hlt')
        clear hcA hcB
        by_cases he : ks[j] = ks'[j]
        · have Hm := Lib.hid (show ∀ m, m < j + 1 → ks[m]? = ks'[m]? from fun m hmj => by
            by_cases e : m = j
            · subst e; rw [List.getElem?_eq_getElem hlt, List.getElem?_eq_getElem hlt', he]
            · exact hm.out m (by omega))
          rw [← he] at r2
          have e1 := same_yes (rfl : ks[j] = ks[j])
          generalize ks[j] = x at r1 r2 e1
          clear he hm
          go_wp2_with fail
          go_quiet (fail)
          go_wp2_with fail
          go_roundw
          case rel => exact ⟨j + 1, _, by omega, by go_num, rfl, Hm.out⟩
          case measure => simp [intOf]; omega
        · have Hno := Lib.hid (HX.out (fun h => he (by have e := h.2.2.2.2.1; subst e; rfl)))
          have e1 := same_no he
          generalize ks[j] = x at r1 e1
          generalize ks'[j] = y at r2 e1
          clear he hm HX HY
          go_wp2_with fail
          go_quiet (fail)
          go_wp2_with fail
          go_ret
          exact ⟨by rw [Hno.out]; rfl, below_drewN (below_drewN Hb1.out _) _⟩
      · obtain rfl : j = ks.length := by omega
        have hks : ks = ks' := List.ext_getElem? (fun m => by
          by_cases hm' : m < ks.length
          · exact hm.out m hm'
          · rw [List.getElem?_eq_none (by omega), List.getElem?_eq_none (by have := H5.out; omega)])
        subst hks
        have Hb2 := Lib.hid (below_drewN Hb1.out q)
        have Hp2 := Lib.hid (show Row6 (w1.drewN q) w.heap.size _ _ _ _ _ _ from Hp.out)
        have Hq2 := Lib.hid (show Row6 (w1.drewN q) (w.heap.size + 1) _ _ _ _ _ _ from Hq'.out)
        have Hk2 := Lib.hid (show KidsAt (w1.drewN q) f A2 kids from Hk.out.kept (fun _ _ => rfl))
        have Hk2' := Lib.hid (show KidsAt (w1.drewN q) f B2 kids' from Hk'.out.kept (fun _ _ => rfl))
        clear hm Hb1 Hp Hq' Hk Hk' Hr Hr'
        generalize hw2 : w1.drewN q = w2 at *
        clear hw2 p0 p1 p2 p3 p4 p5 q0 q1 q2 q3 q4 q5
        obtain ⟨p0, p1, p2, p3, p4, p5⟩ := Hp2.out
        obtain ⟨q0, q1, q2, q3, q4, q5⟩ := Hq2.out
        go_wp2_with fail
        clear p0 p1 p2 p3 p4 p5 q0 q1 q2 q3 q4 q5
        go_loopw [6] (fun i wr => ∃ (j : Nat), j ≤ kids.length ∧ i = .int .i64 j ∧ Below w2.heap.size w2 wr ∧ Hid (∀ m, m < j → kids[m]? = kids'[m]?)) (fun i _ => kids.length - (intOf i).toNat)
        case atStart => exact ⟨0, Nat.zero_le _, rfl, Below.refl _ _, fun m hm => by omega⟩
        case round =>
          obtain ⟨j, hj, rfl, hbel, hm⟩ := hrel
          obtain ⟨p0, p1, p2, p3, p4, p5⟩ := Hp2.out.below hbel
          obtain ⟨q0, q1, q2, q3, q4, q5⟩ := Hq2.out.below hbel
          by_cases hlt : j < kids.length
          · have hlt' : j < kids'.length := by have := H6.out; omega
            obtain ⟨g1, o1, rfl, hg1, hkid1⟩ := (Hk2.out.below hbel) (by omega)
            obtain ⟨g2, o2, rfl, hg2, hkid2⟩ := (Hk2'.out.below hbel) (by have := H6.out; omega)
            obtain ⟨u0, u1, u2, u3, u4, u5, ⟨r0, r1, r2, r3, r4, r5⟩, hls1⟩ := hkid1 j kids[j] (List.getElem?_eq_getElem hlt)
            obtain ⟨v0, v1, v2, v3, v4, v5, ⟨t0, t1, t2, t3, t4, t5⟩, hls2⟩ := hkid2 j kids'[j] (List.getElem?_eq_getElem hlt')
            have HC := Lib.hid (fun w3 (hb : Below wr.heap.size wr w3) => IH.out kids[j] kids'[j] _ _ w3 (hls1.below hb) (hls2.below hb))
            have Hbel := Lib.hid (below_link Hb2.out hbel Hb2.out.size)
            have Hbel2 := Lib.hid hbel
            clear hkid1 hkid2 hls1 hls2 hbel hg1 hg2
            by_cases he : kids[j] = kids'[j]
            · rw [he, same_refl] at HC
              have Hm := Lib.hid (show ∀ m, m < j + 1 → kids[m]? = kids'[m]? from fun m hmj => by
                by_cases e : m = j
                · subst e; rw [List.getElem?_eq_getElem hlt, List.getElem?_eq_getElem hlt', he]
                · exact hm.out m (by omega))
              clear he hm HX HY
              go_wp2_with fail
              go_region_law (go_simp; go_at_call 23; refine (HC.out _ (Below.refl _ _).drew).mono ?_; rintro e w3 ⟨rfl, hb3⟩)
              all_goals
                have hb4 := below_link Hbel2.out ((Below.refl _ _).drew.trans (hb3.mono (Nat.le_refl _))) Hbel2.out.size
                clear hb3 p0 p1 p2 p3 p4 p5 q0 q1 q2 q3 q4 q5 r0 r1 r2 r3 r4 r5 t0 t1 t2 t3 t4 t5
                go_wp2_with fail
                go_roundw
                case rel => exact ⟨j + 1, by omega, by go_num, hb4, Hm.out⟩
                case measure => simp [intOf]; omega
            · have Hno := Lib.hid (HX.out (fun h => he (by have e := h.2.2.2.2.2; subst e; rfl)))
              rw [same_ne he] at HC
              clear he hm HX HY
              go_wp2_with fail
              go_region_law (go_simp; go_at_call 23; refine (HC.out _ (Below.refl _ _).drew).mono ?_; rintro e w3 ⟨rfl, hb3⟩)
              all_goals
                have hb4 := below_link Hbel.out ((Below.refl _ _).drew.trans (hb3.mono (Nat.le_refl _))) Hbel.out.size
                go_wp2_with fail
                go_ret
                exact ⟨by rw [Hno.out]; rfl, hb4⟩
          · obtain rfl : j = kids.length := by omega
            have hkk : kids = kids' := List.ext_getElem? (fun m => by
              by_cases hm' : m < kids.length
              · exact hm.out m hm'
              · rw [List.getElem?_eq_none (by omega), List.getElem?_eq_none (by have := H6.out; omega)])
            have Hyes := Lib.hid (HY.out (by simp [hkk]))
            have Hbel := Lib.hid (below_link Hb2.out hbel Hb2.out.size)
            clear hm hbel HX HY hkk
            go_wp2_with fail
            go_ret
            exact ⟨by rw [Hyes.out]; rfl, Hbel.out⟩
end Go.Proofs.YtegpcjkcejijpaaGreatDoor.tree
