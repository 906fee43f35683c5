/- cmp.Compare at strings, slices.Compare, cmp.Or, impl.compareNeeds, impl.NeedLess. -/
import Derived.Test.YtjcfaepklakpkaaShelf
import Derived.Test.YtjcfaepklakpkaaCmpNM
import Derived.Test.YtjcfaepklakpkaaCmpI
import Derived.Test.YtjcfaepklakpkaaGrB
import Derived.Test.YtjcfaepklakpkaaLessS
import Derived.Deep.RegionHeld3
import Derived.Laws.Cover1
namespace Go.Proofs.Ytjcfaepklakpkaa.need
open Go.ChangeShapes Go.WideShapes Go.ChangeAt Go.RowKit ty lab
set_option linter.unusedVariables false

theorem str_self (x : ByteArray) : (x.toList == x.toList) = true := beq_self_eq_true _
theorem isnan (x : ByteArray) (w : World) :
    Calls Try.prog 30 #[.string x] w fun e w' => e = .returned (.bool false) ∧ w = w' := by
  have h1 := str_self x
  go_enter Try.func30, Try.ntmps30
  go_wp2_with fail
  go_ret
  exact ⟨rfl, rfl⟩
theorem impl_cmpS (x y : ByteArray) (w : World) :
    Calls Try.prog 27 #[.string x, .string y] w fun e w' => e = .returned (.int .i64 (cmpB x y)) ∧ w = w' := by
  have H1 := Lib.hid (isnan x)
  have H2 := Lib.hid (isnan y)
  have hbd := bd_cmpL x.data.toList y.data.toList
  have hw := cmpB_way x y
  unfold cmpB at hw
  have hc : Lib.compareBytes x.data.toList y.data.toList = cmpB x y := rfl
  rw [← hc]
  clear hc
  generalize Lib.compareBytes x.data.toList y.data.toList = r at hbd hw
  rcases hw with ⟨h0, rfl⟩ | ⟨h0, _, h3⟩ | ⟨h0, hne, h3⟩
  · subst h0
    have a1 : Op.bytesLess x.toList x.toList = false := lessB_irr x
    clear hbd
    go_enter Try.func27, Try.ntmps27
    go_wp2_with fail
    refine (H1.out _).mono ?_
    rintro e w1 ⟨rfl, rfl⟩
    go_wp2_with fail
    refine (H2.out _).mono ?_
    rintro e w1 ⟨rfl, rfl⟩
    go_wp2_with fail
    go_ret
    exact ⟨rfl, rfl⟩
  · obtain rfl : r = -1 := by omega
    have a1 : Op.bytesLess x.toList y.toList = true := h3
    clear hbd h3 h0
    go_enter Try.func27, Try.ntmps27
    go_wp2_with fail
    refine (H1.out _).mono ?_
    rintro e w1 ⟨rfl, rfl⟩
    go_wp2_with fail
    refine (H2.out _).mono ?_
    rintro e w1 ⟨rfl, rfl⟩
    go_wp2_with fail
    go_ret
    exact ⟨rfl, rfl⟩
  · obtain rfl : r = 1 := by omega
    have a1 : Op.bytesLess x.toList y.toList = false := h3
    have a2 : Op.bytesLess y.toList x.toList = true := by
      cases h : Op.bytesLess y.toList x.toList with
      | true => rfl
      | false => exact absurd (key_same a1 h) hne
    have a3 := same_no hne
    clear hbd h3 h0 hne
    go_enter Try.func27, Try.ntmps27
    go_wp2_with fail
    refine (H1.out _).mono ?_
    rintro e w1 ⟨rfl, rfl⟩
    go_wp2_with fail
    refine (H2.out _).mono ?_
    rintro e w1 ⟨rfl, rfl⟩
    go_wp2_with fail
    go_ret
    exact ⟨rfl, rfl⟩
set_option maxRecDepth 100000 in
set_option maxHeartbeats 4000000 in
theorem impl_cmpV (a b : List ByteArray) (f1 f2 : Nat) (v1 v2 : Value) (w : World) (h1 : Lies w f1 v1 (.sl 1 a.length (a.flatMap Str.row))) (h2 : Lies w f2 v2 (.sl 1 b.length (b.flatMap Str.row))) :
    Calls Try.prog 24 #[v1, v2] w fun e w' => e = .returned (.int .i64 (cmpV a b)) ∧ w = w' := by
  obtain ⟨A1, c1, rfl, hc1, hm1, hr1, _⟩ := Str.opened h1
  obtain ⟨A2, c2, rfl, hc2, hm2, hr2, _⟩ := Str.opened h2
  unfold maxLen at hm1 hm2
  obtain ⟨R, hR⟩ : ∃ R, cmpV a b = R := ⟨_, rfl⟩
  rw [hR]
  have Hat : Hid (∀ k (h1 : k < a.length) (h2 : k < b.length), (∀ j (hj : j < k), (a[j]'(by omega)) = (b[j]'(by omega))) → cmpB a[k] b[k] ≠ 0 → R = cmpB a[k] b[k]) := fun k h1 h2 h3 h4 => by rw [← hR]; exact cmpV_at h1 h2 h3 h4
  have Hend : Hid ((∀ j (h1 : j < a.length) (h2 : j < b.length), a[j] = b[j]) → R = if b.length < a.length then 1 else if a.length < b.length then -1 else 0) := fun h => by rw [← hR]; exact cmpV_end h
  have Hr1 := Lib.hid hr1
  have Hr2 := Lib.hid hr2
  clear h1 h2 hr1 hr2 hR
  go_enter Try.func24, Try.ntmps24
  go_wp2_with fail
  go_loop [11] (fun i => ∃ j : Nat, j ≤ a.length ∧ i = .int .i64 j ∧ j ≤ b.length ∧ Hid (∀ q (h1 : q < a.length) (h2 : q < b.length), q < j → a[q] = b[q])) (fun i => a.length - (intOf i).toNat)
  case atStart => exact ⟨0, Nat.zero_le _, rfl, Nat.zero_le _, fun q _ _ hq => by omega⟩
  case round =>
    obtain ⟨j, hj, rfl, hjb, hall⟩ := hrel
    by_cases hlt : j < a.length
    · obtain ⟨g1, o1, rfl, hg1, hc01⟩ := Hr1.out.2 (by omega)
      have q0 := hc01 j hlt _ (scells_get a j hlt)
      by_cases hlb : j < b.length
      · obtain ⟨g2, o2, rfl, hg2, hc02⟩ := Hr2.out.2 (by omega)
        have q1 := hc02 j hlb _ (scells_get b j hlb)
        have n1 : ¬ (b.length : Int) ≤ (j : Int) := by omega
        have HC := Lib.hid (impl_cmpS a[j] b[j])
        by_cases hz : cmpB a[j] b[j] = 0
        · have Hn : Hid (∀ q (h1 : q < a.length) (h2 : q < b.length), q < j + 1 → a[q] = b[q]) := fun q h1 h2 hq => by
            by_cases e : q = j
            · subst e; exact cmpB_zero hz
            · exact hall.out q h1 h2 (by omega)
          rw [hz] at HC
          clear hz Hat Hend hall hc01 hc02 hg1 hg2
          generalize a[j] = x at q0 HC
          generalize b[j] = y at q1 HC
          go_wp2_with fail
          refine (HC.out _).mono ?_
          rintro e w1 ⟨rfl, rfl⟩
          go_wp2_with fail
          go_round
          case rel => exact ⟨j + 1, by omega, by go_num, by omega, Hn.out⟩
          case measure => simp [intOf]; omega
        · have Hf := Lib.hid (Hat.out j hlt hlb (fun q hq => hall.out q (by omega) (by omega) hq) hz)
          have hne : (cmpB a[j] b[j] != 0) = true := bne_iff_ne.2 hz
          clear hz Hat Hend hall hc01 hc02 hg1 hg2
          generalize cmpB a[j] b[j] = r at HC Hf hne
          generalize a[j] = x at q0 HC
          generalize b[j] = y at q1 HC
          go_wp2_with fail
          refine (HC.out _).mono ?_
          rintro e w1 ⟨rfl, rfl⟩
          go_wp2_with fail
          go_ret
          exact ⟨by rw [Hf.out]; rfl, rfl⟩
      · obtain rfl : j = b.length := by omega
        have Hf := Lib.hid (Hend.out (fun q h1 h2 => hall.out q h1 h2 h2))
        rw [if_pos hlt] at Hf
        have n1 : (b.length : Int) ≤ (b.length : Int) := Int.le_refl _
        clear Hat Hend hall hc01 hg1
        generalize a[b.length] = x at q0
        go_wp2_with fail
        go_ret
        exact ⟨by rw [Hf.out]; rfl, rfl⟩
    · obtain rfl : j = a.length := by omega
      have Hf := Lib.hid (Hend.out (fun q h1 h2 => hall.out q h1 h2 h1))
      rw [if_neg (by omega)] at Hf
      clear Hat Hend hall
      by_cases hl : a.length < b.length
      · rw [if_pos hl] at Hf
        have n2 : (a.length : Int) < (b.length : Int) := by omega
        go_wp2_with fail
        go_ret
        exact ⟨by rw [Hf.out]; rfl, rfl⟩
      · rw [if_neg hl] at Hf
        have n2 : ¬ (a.length : Int) < (b.length : Int) := by omega
        go_wp2_with fail
        go_ret
        exact ⟨by rw [Hf.out]; rfl, rfl⟩
end Go.Proofs.Ytjcfaepklakpkaa.need
