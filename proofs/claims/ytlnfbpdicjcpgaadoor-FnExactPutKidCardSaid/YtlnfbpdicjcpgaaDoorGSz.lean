/- Merged: TrSizeS TrDepthS TrLeavesS. -/
import Derived.Test.YtlnfbpdicjcpgaaDoorGTree
import Derived.Test.YtlnfbpdicjcpgaaDoorRows
import Derived.ProofKit
import Derived.OpenShut
namespace Go.Proofs.YtlnfbpdicjcpgaaDoor.tree
open Go.ChangeShapes Go.WideShapes Go.ChangeAt Go.RowKit
set_option linter.unusedVariables false

theorem spec_size : ∀ (f : Nat) (t : T) (vs : List Value) (w : World), LiesS w f vs (row t) → size t ≤ 1099511627776 →
    Calls Tryd.prog 23 #[.agg vs.toArray] w fun e w' => e = .returned (.int .i64 (size t : Nat)) ∧ Below w.heap.size w w'
  | 0, t, vs, w, h, hsz => by
    obtain ⟨k, fl, n, s, ks, kids⟩ := t
    obtain ⟨_, _, _, _, _, _, _, _, _, _, _, _, _, _, f', hf, _⟩ := open_tree h
    omega
  | f + 1, t, vs, w, h, hsz => by
    obtain ⟨k, fl, n, s, ks, kids⟩ := t
    obtain ⟨A1, c1, A2, c2, rfl, _, _, _, hc1, hc2, hr, _, hc3, hc4, f', hf, hk⟩ := open_tree h
    obtain rfl : f = f' := by omega
    have Hk := Lib.hid hk
    unfold maxLen at hc4
    clear h hk hr hf hc1 hc2
    rw [size] at hsz ⊢
    have HB := Lib.hid (Box.new 29 w [.int .i64 k, .bool fl, .int .i64 n, .string s, .slice A1 ks.length c1, .slice A2 kids.length c2])
    have IH := Lib.hid (fun x vs w h h2 => spec_size f x vs w h h2)
    go_enter Tryd.func23, Tryd.ntmps23
    go_wp2_with fail
    go_loopw [3, 4] (fun a i wr => ∃ (j m : Nat), j ≤ kids.length ∧ i = .int .i64 j ∧ a = .int .i64 m ∧ Hid (m = 1 + sizes (kids.take j)) ∧ Box 29 w [.int .i64 k, .bool fl, .int .i64 n, .string s, .slice A1 ks.length c1, .slice A2 kids.length c2] wr) (fun _ i _ => kids.length - (intOf i).toNat)
    case atStart => exact ⟨0, 1, Nat.zero_le _, rfl, rfl, rfl, HB.out⟩
    case round =>
      clear HB
      obtain ⟨j, m, hj, rfl, rfl, hm, hbox⟩ := hrel
      have hc5 : wr.cell? ⟨w.heap.size, 5, none⟩ = some (.slice A2 kids.length c2) := hbox.cell rfl
      by_cases hlt : j < kids.length
      · obtain ⟨g, o, rfl, hg, hkid⟩ := (Hk.out.below hbox.1) (by omega)
        obtain ⟨u0, u1, u2, u3, u4, u5, ⟨q0, q1, q2, q3, q4, q5⟩, hl⟩ := hkid j kids[j] (List.getElem?_eq_getElem hlt)
        have hsz2 : size kids[j] ≤ 1099511627776 ∧ m + size kids[j] ≤ 1099511627776 := by
          have h1 := sizes_le_mem (List.getElem_mem hlt)
          have h2 : sizes kids = sizes (kids.take (j + 1)) + sizes (kids.drop (j + 1)) := by rw [← sizes_append, List.take_append_drop]
          rw [List.take_succ_eq_append_getElem hlt, sizes_append] at h2
          have h3 : sizes [kids[j]] = size kids[j] := by simp [sizes]
          have := hm.out
          omega
        have HC := Lib.hid (IH.out kids[j] _ wr hl hsz2.1)
        have Hm := Lib.hid (show m + size kids[j] = 1 + sizes (kids.take (j + 1)) by
          rw [List.take_succ_eq_append_getElem hlt, sizes_append, hm.out]
          simp only [sizes]
          omega)
        have hsz3 := hsz2.2
        have Hbox := Lib.hid hbox
        clear hsz2 hl hkid hbox hm hg
        generalize size kids[j] = z at HC Hm hsz3
        go_wp2_with fail
        refine HC.out.mono ?_
        rintro e w1 ⟨rfl, hb1⟩
        have Hbox1 := Lib.hid (Hbox.out.below hb1)
        clear HC Hbox hb1 hc5 q0 q1 q2 q3 q4 q5
        go_wp2_with fail
        go_roundw
        case rel => exact ⟨j + 1, m + z, by omega, by go_num, by go_num, Hm.out, Hbox1.out⟩
        case measure => simp [intOf]; omega
      · obtain rfl : j = kids.length := by omega
        rw [List.take_of_length_le (Nat.le_refl _)] at hm
        have HB := Lib.hid hbox.1
        clear hbox
        go_wp2_with fail
        go_ret
        exact ⟨by rw [← hm.out]; rfl, HB.out⟩
end Go.Proofs.YtlnfbpdicjcpgaaDoor.tree
namespace Go.Proofs.YtlnfbpdicjcpgaaDoor.tree
open Go.ChangeShapes Go.WideShapes Go.ChangeAt Go.RowKit
set_option linter.unusedVariables false

theorem spec_depth : ∀ (f : Nat) (t : T) (vs : List Value) (w : World), LiesS w f vs (row t) → depth t ≤ 1099511627776 →
    Calls Tryd.prog 25 #[.agg vs.toArray] w fun e w' => e = .returned (.int .i64 (depth t : Nat)) ∧ Below w.heap.size w w'
  | 0, t, vs, w, h, hsz => by
    obtain ⟨k, fl, n, s, ks, kids⟩ := t
    obtain ⟨_, _, _, _, _, _, _, _, _, _, _, _, _, _, f', hf, _⟩ := open_tree h
    omega
  | f + 1, t, vs, w, h, hsz => by
    obtain ⟨k, fl, n, s, ks, kids⟩ := t
    obtain ⟨A1, c1, A2, c2, rfl, _, _, _, hc1, hc2, hr, _, hc3, hc4, f', hf, hk⟩ := open_tree h
    obtain rfl : f = f' := by omega
    have Hk := Lib.hid hk
    unfold maxLen at hc4
    clear h hk hr hf hc1 hc2
    rw [depth] at hsz ⊢
    have HB := Lib.hid (Box.new 29 w [.int .i64 k, .bool fl, .int .i64 n, .string s, .slice A1 ks.length c1, .slice A2 kids.length c2])
    have IH := Lib.hid (fun x vs w h h2 => spec_depth f x vs w h h2)
    go_enter Tryd.func25, Tryd.ntmps25
    go_wp2_with fail
    go_loopw [3, 4] (fun a i wr => ∃ (j m : Nat), j ≤ kids.length ∧ i = .int .i64 j ∧ a = .int .i64 m ∧ m ≤ 1099511627776 ∧ Hid (m = depths (kids.take j)) ∧ Box 29 w [.int .i64 k, .bool fl, .int .i64 n, .string s, .slice A1 ks.length c1, .slice A2 kids.length c2] wr) (fun _ i _ => kids.length - (intOf i).toNat)
    case atStart => exact ⟨0, 0, Nat.zero_le _, rfl, rfl, by omega, rfl, HB.out⟩
    case round =>
      clear HB
      obtain ⟨j, m, hj, rfl, rfl, hm0, hm, hbox⟩ := hrel
      have hc5 : wr.cell? ⟨w.heap.size, 5, none⟩ = some (.slice A2 kids.length c2) := hbox.cell rfl
      by_cases hlt : j < kids.length
      · obtain ⟨g, o, rfl, hg, hkid⟩ := (Hk.out.below hbox.1) (by omega)
        obtain ⟨u0, u1, u2, u3, u4, u5, ⟨q0, q1, q2, q3, q4, q5⟩, hl⟩ := hkid j kids[j] (List.getElem?_eq_getElem hlt)
        have hnext : depths (kids.take (j + 1)) = max (depths (kids.take j)) (depth kids[j]) := by
          rw [List.take_succ_eq_append_getElem hlt, depths_append]
          simp [depths]
        have hsz2 : depth kids[j] ≤ 1099511627776 := by
          have h2 : depths kids = max (depths (kids.take (j + 1))) (depths (kids.drop (j + 1))) := by rw [← depths_append, List.take_append_drop]
          omega
        have HC := Lib.hid (IH.out kids[j] _ wr hl hsz2)
        have Hm := Lib.hid (show depths (kids.take (j + 1)) = max m (depth kids[j]) by rw [hnext, hm.out])
        have Hbox := Lib.hid hbox
        clear hl hkid hbox hm hg hnext
        generalize depth kids[j] = z at HC Hm hsz2
        by_cases hz : m < z
        · go_wp2_with fail
          refine HC.out.mono ?_
          rintro e w1 ⟨rfl, hb1⟩
          have Hbox1 := Lib.hid (Hbox.out.below hb1)
          clear HC Hbox hb1 hc5 q0 q1 q2 q3 q4 q5
          go_wp2_with fail
          go_roundw
          case rel => exact ⟨j + 1, z, by omega, by go_num, by go_num, hsz2, by unfold Hid; rw [Hm.out]; omega, Hbox1.out⟩
          case measure => simp [intOf]; omega
        · go_wp2_with fail
          refine HC.out.mono ?_
          rintro e w1 ⟨rfl, hb1⟩
          have Hbox1 := Lib.hid (Hbox.out.below hb1)
          clear HC Hbox hb1 hc5 q0 q1 q2 q3 q4 q5
          go_wp2_with fail
          go_roundw
          case rel => exact ⟨j + 1, m, by omega, by go_num, by go_num, hm0, by unfold Hid; rw [Hm.out]; omega, Hbox1.out⟩
          case measure => simp [intOf]; omega
      · obtain rfl : j = kids.length := by omega
        rw [List.take_of_length_le (Nat.le_refl _)] at hm
        have HB := Lib.hid hbox.1
        clear hbox
        go_wp2_with fail
        go_ret
        exact ⟨by rw [← hm.out]; rfl, HB.out⟩
end Go.Proofs.YtlnfbpdicjcpgaaDoor.tree
namespace Go.Proofs.YtlnfbpdicjcpgaaDoor.tree
open Go.ChangeShapes Go.WideShapes Go.ChangeAt Go.RowKit
set_option linter.unusedVariables false

theorem spec_leaves : ∀ (f : Nat) (t : T) (vs : List Value) (w : World), LiesS w f vs (row t) → size t ≤ 1099511627776 →
    Calls Tryd.prog 27 #[.agg vs.toArray] w fun e w' => e = .returned (.int .i64 (leaves t : Nat)) ∧ Below w.heap.size w w'
  | 0, t, vs, w, h, hsz => by
    obtain ⟨k, fl, n, s, ks, kids⟩ := t
    obtain ⟨_, _, _, _, _, _, _, _, _, _, _, _, _, _, f', hf, _⟩ := open_tree h
    omega
  | f + 1, t, vs, w, h, hsz => by
    obtain ⟨k, fl, n, s, ks, kids⟩ := t
    obtain ⟨A1, c1, A2, c2, rfl, _, _, _, hc1, hc2, hr, _, hc3, hc4, f', hf, hk⟩ := open_tree h
    obtain rfl : f = f' := by omega
    have Hk := Lib.hid hk
    unfold maxLen at hc4
    clear h hk hr hf hc1 hc2
    rw [size] at hsz
    rw [leaves]
    have HB := Lib.hid (Box.new 29 w [.int .i64 k, .bool fl, .int .i64 n, .string s, .slice A1 ks.length c1, .slice A2 kids.length c2])
    have IH := Lib.hid (fun x vs w h h2 => spec_leaves f x vs w h h2)
    have hc0 := HB.out.cell (j := 0) rfl
    have hc5 := HB.out.cell (j := 5) rfl
    by_cases h0 : kids.length = 0
    · rw [if_pos h0]
      by_cases h5 : k = 5
      · rw [if_pos (.inl h5)]
        subst h5
        go_enter Tryd.func27, Tryd.ntmps27
        go_wp2_with fail
        go_ret
        exact ⟨rfl, (Below.refl _ _).alloc (Nat.le_refl _) _⟩
      by_cases h6 : k = 6
      · rw [if_pos (.inr h6)]
        subst h6
        go_enter Tryd.func27, Tryd.ntmps27
        go_wp2_with fail
        go_ret
        exact ⟨rfl, (Below.refl _ _).alloc (Nat.le_refl _) _⟩
      · rw [if_neg (by omega)]
        have e5 : (k == 5) = false := beq_eq_false_iff_ne.2 h5
        have e6 : (k == 6) = false := beq_eq_false_iff_ne.2 h6
        go_enter Tryd.func27, Tryd.ntmps27
        go_wp2_with fail
        go_ret
        exact ⟨rfl, (Below.refl _ _).alloc (Nat.le_refl _) _⟩
    rw [if_neg h0]
    have en : ((kids.length : Int) == 0) = false := by rw [beq_eq_false_iff_ne]; omega
    clear hc0
    go_enter Tryd.func27, Tryd.ntmps27
    go_wp2_with fail
    clear hc5 en
    go_loopw [3, 4] (fun a i wr => ∃ (j m : Nat), j ≤ kids.length ∧ i = .int .i64 j ∧ a = .int .i64 m ∧ Hid (m = leavess (kids.take j)) ∧ Box 29 w [.int .i64 k, .bool fl, .int .i64 n, .string s, .slice A1 ks.length c1, .slice A2 kids.length c2] wr) (fun _ i _ => kids.length - (intOf i).toNat)
    case atStart => exact ⟨0, 0, Nat.zero_le _, rfl, rfl, rfl, HB.out⟩
    case round =>
      clear HB
      obtain ⟨j, m, hj, rfl, rfl, hm, hbox⟩ := hrel
      have hc5 : wr.cell? ⟨w.heap.size, 5, none⟩ = some (.slice A2 kids.length c2) := hbox.cell rfl
      by_cases hlt : j < kids.length
      · obtain ⟨g, o, rfl, hg, hkid⟩ := (Hk.out.below hbox.1) (by omega)
        obtain ⟨u0, u1, u2, u3, u4, u5, ⟨q0, q1, q2, q3, q4, q5⟩, hl⟩ := hkid j kids[j] (List.getElem?_eq_getElem hlt)
        have hsz2 : size kids[j] ≤ 1099511627776 ∧ m + leaves kids[j] ≤ 1099511627776 := by
          have h1 := sizes_le_mem (List.getElem_mem hlt)
          have h4 := leavess_le_sizes kids
          have h2 : leavess kids = leavess (kids.take (j + 1)) + leavess (kids.drop (j + 1)) := by rw [← leavess_append, List.take_append_drop]
          rw [List.take_succ_eq_append_getElem hlt, leavess_append] at h2
          have h3 : leavess [kids[j]] = leaves kids[j] := by simp [leavess]
          have := hm.out
          omega
        have HC := Lib.hid (IH.out kids[j] _ wr hl hsz2.1)
        have Hm := Lib.hid (show m + leaves kids[j] = leavess (kids.take (j + 1)) by
          rw [List.take_succ_eq_append_getElem hlt, leavess_append, hm.out]
          simp only [leavess]
          omega)
        have hsz3 := hsz2.2
        have Hbox := Lib.hid hbox
        clear hsz2 hl hkid hbox hm hg
        generalize leaves kids[j] = z at HC Hm hsz3
        go_wp2_with fail
        refine HC.out.mono ?_
        rintro e w1 ⟨rfl, hb1⟩
        have Hbox1 := Lib.hid (Hbox.out.below hb1)
        clear HC Hbox hb1 hc5 q0 q1 q2 q3 q4 q5
        go_wp2_with fail
        go_roundw
        case rel => exact ⟨j + 1, m + z, by omega, by go_num, by go_num, Hm.out, Hbox1.out⟩
        case measure => simp [intOf]; omega
      · obtain rfl : j = kids.length := by omega
        rw [List.take_of_length_le (Nat.le_refl _)] at hm
        have HB := Lib.hid hbox.1
        clear hbox
        go_wp2_with fail
        go_ret
        exact ⟨by rw [← hm.out]; rfl, HB.out⟩
end Go.Proofs.YtlnfbpdicjcpgaaDoor.tree
