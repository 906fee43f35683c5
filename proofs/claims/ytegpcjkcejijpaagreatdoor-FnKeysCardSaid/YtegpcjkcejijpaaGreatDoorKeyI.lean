/- impl.KeyOf. -/
import Derived.Test.YtegpcjkcejijpaaGreatDoorPlainI
import Derived.Test.YtegpcjkcejijpaaGreatDoorGBare
import Derived.Test.YtegpcjkcejijpaaGreatDoorGRqI
import Derived.Test.YtegpcjkcejijpaaGreatDoorGLine
namespace Go.Proofs.YtegpcjkcejijpaaGreatDoor.line
open Go.ChangeShapes Go.WideShapes Go.ChangeAt Go.RowKit
set_option linter.unusedVariables false

theorem pre_one (s : ByteArray) (b : UInt8) : Lib.hasPrefix s.data.toList [b] = decide (0 < s.size ∧ at_ s 0 = (b.toNat : Int)) := by
  unfold Lib.hasPrefix
  by_cases c : 0 < s.size ∧ at_ s 0 = (b.toNat : Int)
  · rw [decide_eq_true c, List.isPrefixOf_iff_prefix]
    have hl : 0 < s.data.toList.length := by rw [len_list]; exact c.1
    have e : s.data.toList[0] = b := by
      have := byte_at s 0 _ (List.getElem?_eq_getElem hl)
      exact UInt8.toNat_inj.1 (by have := c.2; omega)
    refine ⟨s.data.toList.drop 1, ?_⟩
    have := List.drop_eq_getElem_cons hl
    rw [List.drop_zero, e] at this
    rw [this]; rfl
  · rw [decide_eq_false c]
    cases e : [b].isPrefixOf s.data.toList with
    | false => rfl
    | true =>
      exfalso
      obtain ⟨t, ht⟩ := List.isPrefixOf_iff_prefix.1 e
      have h0 : s.data.toList[0]? = some b := by rw [← ht]; rfl
      refine c ⟨?_, byte_at _ _ _ h0⟩
      have := (List.getElem?_eq_some_iff.1 h0).1
      rw [len_list] at this
      exact this
set_option maxHeartbeats 1000000 in
theorem impl_keyIn (s : ByteArray) (w : World) (hs : s.size ≤ 1048576) (hT : rune.Tabs w) (hE : readq.ErrVar w "strconv.ErrSyntax") (hM : MaxL w) :
    Calls Tryz.prog 47 #[.string s] w fun e w' => e = .returned (.tuple #[.string (keyIn s).1, .int .i64 (keyIn s).2]) ∧ Below w.heap.size w w' := by
  have HP : Hid (∀ w, Calls Tryz.prog 50 #[.string s, .string ⟨#[34]⟩] w fun e w' => e = .returned (.bool (decide (0 < s.size ∧ at_ s 0 = 34))) ∧ w' = w) := by
    intro w
    have h := Tryz.strings_HasPrefix s ⟨#[34]⟩ w
    rw [show (⟨#[34]⟩ : ByteArray).data.toList = [34] from rfl, pre_one] at h
    exact h
  obtain ⟨R, hR⟩ : ∃ R, keyIn s = R := ⟨_, rfl⟩
  rw [hR]
  have HR := Lib.hid hR
  clear hR
  by_cases c0 : 0 < s.size ∧ at_ s 0 = 34
  · rw [decide_eq_true c0] at HP
    have HQ := Lib.hid (readq.impl_readq s 0 w hs (by omega) (by omega) hT hE)
    have H : Hid (R = readq.readF s 0) := by unfold Hid; rw [← HR.out]; exact if_pos c0
    generalize readq.readF s 0 = q at HQ H
    clear HR c0 hT hE hM
    go_enter Tryz.func47, Tryz.ntmps47
    go_wp2_with fail
    refine (HP.out _).mono ?_
    rintro e w1 ⟨rfl, rfl⟩
    clear HP
    go_wp2_with fail
    refine HQ.out.mono ?_
    rintro e w2 ⟨rfl, hb⟩
    clear HQ
    go_wp2_with fail
    go_ret2
    exact ⟨by rw [H.out]; rfl, hb⟩
  rw [decide_eq_false c0] at HP
  have HK := Lib.hid (impl_ke s w hs hM)
  rcases ke_cases s with ⟨n, hn, he, _⟩ | ⟨hn, _⟩
  · have hlt := he.1
    have hz := size_ex s 0 n (by omega)
    have HL := Lib.hid (impl_plain (s.extract 0 n) w (by omega) hT hM)
    rw [hn] at HK
    have hnn : ¬ (n : Int) < 0 := by omega
    cases hp : plainF (s.extract 0 n) with
    | true =>
      rw [hp] at HL
      have H : Hid (R = (s.extract 0 n, (n : Int))) := by
        unfold Hid
        rw [← HR.out]
        unfold keyIn
        rw [if_neg c0, hn, Int.toNat_natCast, if_pos ⟨by omega, hp⟩]
      clear HR c0 hT hE hM hn he hp hz
      go_enter Tryz.func47, Tryz.ntmps47
      go_wp2_with fail
      refine (HP.out _).mono ?_
      rintro e w1 ⟨rfl, rfl⟩
      clear HP
      go_wp2_with fail
      refine HK.out.mono ?_
      rintro e w2 ⟨rfl, rfl⟩
      clear HK
      go_wp2_with fail
      refine HL.out.mono ?_
      rintro e w3 ⟨rfl, hb⟩
      clear HL
      go_wp2_with fail
      go_ret2
      exact ⟨by rw [H.out]; rfl, hb⟩
    | false =>
      rw [hp] at HL
      have H : Hid (R = (⟨#[]⟩, -1)) := by
        unfold Hid
        rw [← HR.out]
        unfold keyIn
        rw [if_neg c0, hn, Int.toNat_natCast, if_neg]
        rintro ⟨_, h⟩
        rw [hp] at h; cases h
      clear HR c0 hT hE hM hn he hp hz
      go_enter Tryz.func47, Tryz.ntmps47
      go_wp2_with fail
      refine (HP.out _).mono ?_
      rintro e w1 ⟨rfl, rfl⟩
      clear HP
      go_wp2_with fail
      refine HK.out.mono ?_
      rintro e w2 ⟨rfl, rfl⟩
      clear HK
      go_wp2_with fail
      refine HL.out.mono ?_
      rintro e w3 ⟨rfl, hb⟩
      clear HL
      go_wp2_with fail
      go_ret2
      exact ⟨by rw [H.out]; rfl, hb⟩
  · rw [hn] at HK
    have H : Hid (R = (⟨#[]⟩, -1)) := by
      unfold Hid
      rw [← HR.out]
      unfold keyIn
      rw [if_neg c0, hn, if_neg]
      rintro ⟨h, _⟩
      exact absurd h (by decide)
    clear HR c0 hT hE hM hn
    go_enter Tryz.func47, Tryz.ntmps47
    go_wp2_with fail
    refine (HP.out _).mono ?_
    rintro e w1 ⟨rfl, rfl⟩
    clear HP
    go_wp2_with fail
    refine HK.out.mono ?_
    rintro e w2 ⟨rfl, rfl⟩
    clear HK
    go_wp2_with fail
    go_ret2
    exact ⟨by rw [H.out]; rfl, Below.refl _ _⟩

set_option maxHeartbeats 1000000 in
theorem impl_key (s : ByteArray) (w : World) (hs : s.size ≤ 1048576) (hT : rune.Tabs w) (hE : readq.ErrVar w "strconv.ErrSyntax") (hM : MaxL w) :
    Calls Tryz.prog 15 #[.string s] w fun e w' => e = .returned (.tuple #[.string (keyOf s).1, .string (keyOf s).2.1, .bool (keyOf s).2.2]) ∧ Below w.heap.size w w' := by
  have HI := Lib.hid (impl_keyIn s w hs hT hE hM)
  obtain ⟨R, hR⟩ : ∃ R, keyOf s = R := ⟨_, rfl⟩
  rw [hR]
  have HR := Lib.hid hR
  clear hR
  have hno : ¬ (0 ≤ (keyIn s).2 ∧ ends s (keyIn s).2.toNat) → Hid (R = (⟨#[]⟩, ⟨#[]⟩, false)) := fun h => by unfold Hid; rw [← HR.out]; exact if_neg h
  have hyes : ∀ (k : ByteArray) (n : Nat), keyIn s = (k, (n : Int)) → ends s n → Hid (R = (k, trimL (s.extract (n + 1) s.size), true)) := fun k n h h2 => by
    unfold Hid
    rw [← HR.out]
    unfold keyOf
    rw [h]
    simp only [Int.toNat_natCast]
    rw [if_pos ⟨by omega, h2⟩]
  have hbd := keyIn_bd s
  obtain ⟨q, hq⟩ : ∃ q, keyIn s = q := ⟨_, rfl⟩
  rw [hq] at HI hno hyes hbd
  clear HR hq
  rcases hbd with rfl | ⟨n, hn, hle⟩
  · have H := hno (fun h => absurd h.1 (by decide))
    clear hno hyes hT hE hM
    go_enter Tryz.func15, Tryz.ntmps15
    go_wp2_with fail
    refine HI.out.mono ?_
    rintro e w1 ⟨rfl, hb⟩
    clear HI
    go_wp2_with fail
    go_ret3
    exact ⟨by rw [H.out]; rfl, hb⟩
  obtain ⟨k, x⟩ := q
  simp only at hn
  subst hn
  have hz := size_ex s n s.size (Nat.le_refl _)
  have HK := Lib.hid (fun w h => impl_ke (s.extract n s.size) w (by omega) h)
  have hk0 := ke_zero s n hle
  generalize ke (s.extract n s.size) = z at HK hk0
  have HM := Lib.hid hM
  have hnn : ¬ (n : Int) < 0 := by omega
  by_cases he : ends s n
  · have H := hyes k n rfl he
    have e0 := hk0.2 he
    subst e0
    have hlt := he.1
    have HT := Lib.hid (fun w => impl_without (s.extract (n + 1) s.size) w)
    generalize trimL (s.extract (n + 1) s.size) = t at HT H
    clear hno hyes hT hE hM hk0 he hz
    go_enter Tryz.func15, Tryz.ntmps15
    go_wp2_with fail
    refine HI.out.mono ?_
    rintro e w1 ⟨rfl, hb⟩
    clear HI
    have HM1 := Lib.hid (HM.out.below hb)
    have Hb := Lib.hid hb
    clear hb HM
    go_wp2_with fail
    refine (HK.out _ HM1.out).mono ?_
    rintro e w2 ⟨rfl, rfl⟩
    clear HK
    go_wp2_with fail
    refine (HT.out _).mono ?_
    rintro e w3 ⟨rfl, rfl⟩
    clear HT
    go_wp2_with fail
    go_ret3
    exact ⟨by rw [H.out]; rfl, Hb.out⟩
  · have H := hno (fun h => he h.2)
    have e0 : (z != 0) = true := by rw [bne, beq_eq_false_iff_ne.2 (fun h => he (hk0.1 h))]; rfl
    clear hno hyes hT hE hM hk0 he hz
    go_enter Tryz.func15, Tryz.ntmps15
    go_wp2_with fail
    refine HI.out.mono ?_
    rintro e w1 ⟨rfl, hb⟩
    clear HI
    have HM1 := Lib.hid (HM.out.below hb)
    have Hb := Lib.hid hb
    clear hb HM
    go_wp2_with fail
    refine (HK.out _ HM1.out).mono ?_
    rintro e w2 ⟨rfl, rfl⟩
    clear HK
    go_wp2_with fail
    go_ret3
    exact ⟨by rw [H.out]; rfl, Hb.out⟩
end Go.Proofs.YtegpcjkcejijpaaGreatDoor.line
