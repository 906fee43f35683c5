/- slices.BinarySearch at strings. -/
import Derived.Test.YtfggpcahfpjgmaaDoorGTree
import Derived.Test.YtfggpcahfpjgmaaDoorGMk
import Derived.Test.YtfggpcahfpjgmaaDoorGPut
import Derived.Test.YtfggpcahfpjgmaaDoorRows
import Derived.ProofKit
import Derived.OpenShut
import Derived.Deep.LoopGhost
namespace Go.Proofs.YtfggpcahfpjgmaaDoor.tree
open Go.ChangeShapes Go.WideShapes Go.ChangeAt Go.RowKit
set_option linter.unusedVariables false

theorem half_wrap (x : Int) (h0 : 0 ≤ x) (h1 : x < 18446744073709551616) : wrap64 (IntKind.u64.wrap (wrap64 x) / 2) = x / 2 := by
  have e : IntKind.u64.wrap (wrap64 x) = x := by
    have h : IntKind.u64.wrap (wrap64 x) = (wrap64 x) % 18446744073709551616 := by simp [IntKind.wrap, IntKind.bits, IntKind.signed]
    rw [h]
    unfold wrap64
    omega
  rw [e]
  unfold wrap64
  omega
theorem cmp_nan (x : ByteArray) (w : World) : Calls Tryd.prog 57 #[.string x] w fun e w' => e = .returned (.bool false) ∧ w' = w := by
  have e1 : (!(x.toList == x.toList)) = false := by simp
  go_enter Tryd.func57, Tryd.ntmps57
  go_wp2_with fail
  go_ret
  exact ⟨by first | rfl | simp, rfl⟩
theorem sl_nan (x : ByteArray) (w : World) : Calls Tryd.prog 49 #[.string x] w fun e w' => e = .returned (.bool false) ∧ w' = w := by
  have e1 : (!(x.toList == x.toList)) = false := by simp
  go_enter Tryd.func49, Tryd.ntmps49
  go_wp2_with fail
  go_ret
  exact ⟨by first | rfl | simp, rfl⟩
theorem cmp_less (x y : ByteArray) (w : World) : Calls Tryd.prog 48 #[.string x, .string y] w fun e w' => e = .returned (.bool (less x y)) ∧ w' = w := by
  go_enter Tryd.func48, Tryd.ntmps48
  go_wp2_with (go_at_call 57; refine (cmp_nan _ _).mono ?_; rintro e w' ⟨rfl, rfl⟩)
  go_ret
  exact ⟨rfl, rfl⟩

set_option maxRecDepth 1000000 in
set_option maxHeartbeats 4000000 in
theorem bsearch (A : Option Addr) (c : Nat) (ks : List ByteArray) (key : ByteArray) (w : World) (hc : ks.length ≤ c) (hcm : c ≤ maxLen) (hr : Rd w A ks.length (scells ks)) (hp : ks.Pairwise (fun a b => less a b = true)) :
    Calls Tryd.prog 34 #[.slice A ks.length c, .string key] w fun e w' => ∃ i, i ≤ ks.length ∧ (∀ k ∈ ks.take i, less k key = true) ∧ (∀ k ∈ ks.drop i, less k key = false) ∧
      e = .returned (.tuple #[.int .i64 (i : Nat), .bool (decide (ks[i]? = some key))]) ∧ ∃ q, w' = w.drewN q := by
  unfold maxLen at hcm
  have Hr := Lib.hid hr
  have HS := Lib.hid (show ∀ a b (ha : a ≤ b) (hb : b < ks.length), less ks[b] key = true → less (ks[a]'(by omega)) key = true from fun a b ha hb h => by
    by_cases e : a = b
    · subst e; exact h
    · exact less_trans (List.pairwise_iff_getElem.1 hp a b (by omega) hb (by omega)) h)
  clear hr hp
  go_enter Tryd.func34, Tryd.ntmps34
  go_wp2_with fail
  go_loopg [7, 8] ks.length (fun g s7 s8 wr => ∃ lo hi q : Nat, s7 = .int .i64 lo ∧ s8 = .int .i64 hi ∧ lo ≤ hi ∧ hi ≤ ks.length ∧ hi - lo ≤ g ∧ wr = w.drewN q ∧ Hid ((∀ t (h : t < ks.length), t < lo → less ks[t] key = true) ∧ (∀ t (h : t < ks.length), hi ≤ t → less ks[t] key = false)))
  case atStart => exact ⟨0, ks.length, 0, rfl, rfl, Nat.zero_le _, Nat.le_refl _, by omega, rfl, ⟨fun t _ ht => absurd ht (Nat.not_lt_zero _), fun t h1 h2 => by omega⟩⟩
  case round =>
    obtain ⟨lo, hi, q, rfl, rfl, hlh, hin, hg, rfl, I⟩ := hrel
    by_cases hlt : lo < hi
    · have hm : (lo + hi) / 2 < ks.length := by omega
      obtain ⟨g', o, rfl, hg', hc0⟩ := Hr.out.2 (by omega)
      have cm := hc0 ((lo + hi) / 2) hm _ (scells_get ks _ hm)
      have ew : wrap64 (IntKind.u64.wrap (wrap64 ((lo : Int) + (hi : Int))) / 2) = (((lo + hi) / 2 : Nat) : Int) := by
        rw [half_wrap _ (by omega) (by omega)]
        omega
      clear hc0 hg'
      cases hl : less ks[(lo + hi) / 2] key with
      | true =>
        have I2 := Lib.hid (show (∀ t (h : t < ks.length), t < (lo + hi) / 2 + 1 → less ks[t] key = true) ∧ (∀ t (h : t < ks.length), hi ≤ t → less ks[t] key = false) from ⟨fun t h ht => HS.out t _ (by omega) hm hl, I.out.2⟩)
        have HL := Lib.hid (fun w => cmp_less ks[(lo + hi) / 2] key w)
        rw [hl] at HL
        generalize ks[(lo + hi) / 2] = y at cm HL
        clear hl I
        go_wp2_with (go_at_call 48; refine (HL.out _).mono ?_; rintro e w' ⟨rfl, rfl⟩)
        go_roundg (hi - ((lo + hi) / 2 + 1))
        case measure => omega
        case rel => exact ⟨(lo + hi) / 2 + 1, hi, _, by first | rfl | (congr 1; omega) | (rw [show ((lo : Int) + (hi : Int)) / 2 + 1 = (((lo + hi) / 2 + 1 : Nat) : Int) by omega]), rfl, by omega, hin, Nat.le_refl _, rfl, I2⟩
      | false =>
        have I2 := Lib.hid (show (∀ t (h : t < ks.length), t < lo → less ks[t] key = true) ∧ (∀ t (h : t < ks.length), (lo + hi) / 2 ≤ t → less ks[t] key = false) from ⟨I.out.1, fun t h ht => by
          cases hx : less ks[t] key with
          | false => rfl
          | true => rw [HS.out _ t ht h hx] at hl; cases hl⟩)
        have HL := Lib.hid (fun w => cmp_less ks[(lo + hi) / 2] key w)
        rw [hl] at HL
        generalize ks[(lo + hi) / 2] = y at cm HL
        clear hl I
        go_wp2_with (go_at_call 48; refine (HL.out _).mono ?_; rintro e w' ⟨rfl, rfl⟩)
        go_roundg ((lo + hi) / 2 - lo)
        case measure => omega
        case rel => exact ⟨lo, (lo + hi) / 2, _, rfl, by first | rfl | (congr 1; omega) | (rw [show ((lo : Int) + (hi : Int)) / 2 = (((lo + hi) / 2 : Nat) : Int) by omega]), by omega, by omega, Nat.le_refl _, rfl, I2⟩
    · obtain rfl : hi = lo := by omega
      have Hend := Lib.hid (show (∀ k ∈ ks.take hi, less k key = true) ∧ (∀ k ∈ ks.drop hi, less k key = false) from ⟨fun k hk => by
          obtain ⟨t, ht, rfl⟩ := List.getElem_of_mem hk
          rw [List.getElem_take]
          exact I.out.1 t (by simp at ht; omega) (by simp at ht; omega), fun k hk => by
          obtain ⟨t, ht, rfl⟩ := List.getElem_of_mem hk
          rw [List.getElem_drop]
          exact I.out.2 _ (by simp at ht; omega) (by omega)⟩)
      clear I
      by_cases hn : hi < ks.length
      · obtain ⟨g', o, rfl, hg', hc0⟩ := Hr.out.2 (by omega)
        have cl := hc0 hi hn _ (scells_get ks _ hn)
        clear hc0 hg'
        have hget : ks[hi]? = some ks[hi] := List.getElem?_eq_getElem hn
        by_cases hy : ks[hi] = key
        · have Hv := Lib.hid (show decide (ks[hi]? = some key) = true by rw [hget, hy]; simp)
          rw [hy] at cl
          have e1 : (key.toList == key.toList) = true := by simp
          clear hget hy
          go_wp2_with fail
          go_ret2
          exact ⟨hi, hin, Hend.out.1, Hend.out.2, by rw [Hv.out]; first | rfl | simp, _, rfl⟩
        · have Hv := Lib.hid (show decide (ks[hi]? = some key) = false by rw [hget]; simp [hy])
          have e2 := same_no hy
          have e3 := Lib.hid (sl_nan ks[hi])
          generalize ks[hi] = y at cl e2 e3
          clear hget hy
          go_wp2_with (go_at_call 49; refine (e3.out _).mono ?_; rintro e w' ⟨rfl, rfl⟩)
          go_ret2
          exact ⟨hi, hin, Hend.out.1, Hend.out.2, by rw [Hv.out]; first | rfl | simp, _, rfl⟩
      · have Hv := Lib.hid (show decide (ks[hi]? = some key) = false by rw [List.getElem?_eq_none (by omega)]; simp)
        go_wp2_with fail
        go_ret2
        exact ⟨hi, hin, Hend.out.1, Hend.out.2, by rw [Hv.out]; first | rfl | simp, _, rfl⟩
end Go.Proofs.YtfggpcahfpjgmaaDoor.tree
