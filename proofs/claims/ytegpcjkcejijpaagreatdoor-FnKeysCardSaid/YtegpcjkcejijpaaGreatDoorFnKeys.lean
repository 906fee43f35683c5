/- FnKeys: for every byte slice the law returns true. -/
import Derived.Test.YtegpcjkcejijpaaGreatDoorDrawKey
import Derived.Test.YtegpcjkcejijpaaGreatDoorDrawLine
import Derived.Test.YtegpcjkcejijpaaGreatDoorKtI
import Derived.Test.YtegpcjkcejijpaaGreatDoorKeyI
import Derived.Test.YtegpcjkcejijpaaGreatDoorItemI
import Derived.Test.YtegpcjkcejijpaaGreatDoorGPl
import Derived.Test.YtegpcjkcejijpaaGreatDoorGRn
import Derived.Test.YtegpcjkcejijpaaGreatDoorGBk
import Derived.Test.YtegpcjkcejijpaaGreatDoorBigL
namespace Go.Proofs.YtegpcjkcejijpaaGreatDoor.fnKeys
open Go.ChangeShapes Go.WideShapes Go.ChangeAt Go.RowKit
set_option linter.unusedVariables false

theorem plain_ab : line.plainF ⟨#[97, 32, 98]⟩ = true := by
  refine line.plain_iff.2 ⟨by decide, by decide, ?_, by decide, by decide, by decide, ?_, ?_, by decide⟩
  · exact draw.runes_ascii rfl
  · intro k hk
    have h : ∀ m : Fin 3, ¬ line.odd (at_ ⟨#[97, 32, 98]⟩ m.val) ∧ ¬ line.ends ⟨#[97, 32, 98]⟩ m.val := by
      unfold line.ends
      decide
    exact h ⟨k, hk⟩
  · intro h
    have := h 0 (by decide)
    unfold line.figB at this
    exact absurd this.2 (by decide)
set_option maxRecDepth 100000 in
set_option maxHeartbeats 4000000 in
theorem walk (A : Option Addr) (len cap : Nat) (zs : List Int) (W : World) (hr : IsRow .u8 W A len cap zs) (hT : rune.Tabs W) (hE : readq.ErrVar W "strconv.ErrSyntax") (hM : line.MaxL W) :
    Calls Tryz.prog 3 #[.slice A len cap] W fun e w' => e = .returned (.bool true) ∧ Below W.heap.size W w' := by
  have hm := hr.le
  have hB := Lib.hid (lawBig.any A len cap W hm)
  unfold maxLen at hm
  by_cases h1 : 1048576 < len
  · clear hr hT hE hM
    go_enter Tryz.func3, Tryz.ntmps3
    go_wp2_with fail
    refine hB.out.mono ?_
    rintro e w1 ⟨rfl, rfl⟩
    go_wp2_with fail
    go_ret
    exact ⟨rfl, Below.refl _ _⟩
  have HD := Lib.hid (draw.keyText_any A len cap zs W hr (by omega))
  have HD2 := Lib.hid (fun W1 (hb : Below W.heap.size W W1) => draw.plainOk_any A len cap zs W1 (hr.below hb) (by omega))
  have HT := Lib.hid (fun w1 (hb : Below W.heap.size W w1) => hT.below hb)
  have HE := Lib.hid (fun w1 (hb : Below W.heap.size W w1) => hE.below hb)
  have HM := Lib.hid (fun w1 (hb : Below W.heap.size W w1) => hM.below hb)
  have HPl := Lib.hid (fun (t : ByteArray) (ht : t.size ≤ 1048576) w hb => line.impl_plain t w ht (HT.out w hb) (HM.out w hb))
  have HAB := Lib.hid (fun w hb => HPl.out ⟨#[97, 32, 98]⟩ (by decide) w hb)
  rw [plain_ab] at HAB
  have HKt := Lib.hid (fun (t : ByteArray) (ht : t.size ≤ 1048576) w hb => line.impl_kt t w ht (HT.out w hb) (HM.out w hb))
  have HKo := Lib.hid (fun (t : ByteArray) (ht : t.size ≤ 1048576) w hb => line.impl_key t w ht (HT.out w hb) (HE.out w hb) (HM.out w hb))
  clear hr hT hE hM
  go_enter Tryz.func3, Tryz.ntmps3
  go_wp2_with fail
  refine hB.out.mono ?_
  rintro e w1 ⟨rfl, rfl⟩
  clear hB
  go_wp2_with fail
  refine HD.out.mono ?_
  rintro e w1 ⟨k, hk, rfl, hb1⟩
  have Hb1 := Lib.hid hb1
  clear HD hb1
  go_wp2_with fail
  refine (HD2.out _ Hb1.out).mono ?_
  rintro e w2 ⟨r, hr, rfl, hb2⟩
  have Hb2 := Lib.hid (Hb1.out.trans (hb2.mono Hb1.out.size))
  clear HD2 hb2 Hb1
  have HU := Lib.hid (fun w => rune.spec_utf k w (by omega))
  have HPr := Lib.hid (fun w => line.spec_plain r w (by omega))
  have HPi := Lib.hid (fun w hb => HPl.out r (by omega) w hb)
  clear HPl
  by_cases hgood : (rune.runesF k).isSome = true ∧ line.plainF r = true
  · obtain ⟨hu, hp⟩ := hgood
    obtain ⟨l, hl⟩ := Option.isSome_iff_exists.1 hu
    rw [(rune.res_some hl).2] at HU
    rw [hp] at HPr
    have hP := line.plain_iff.1 hp
    have hqz : (line.keyT k).size ≤ 170 := by
      unfold line.keyT
      split
      · omega
      · rw [quote.quoted_yes hl, quote.wrap_size]
        have h : (quote.byB k.data.toList).length ≤ 6 * k.data.toList.length := by
          induction k.data.toList with
          | nil => exact Nat.le_refl _
          | cons b l ih =>
            have h := quote.qB_le b
            unfold quote.byB at ih ⊢
            rw [List.flatMap_cons, List.length_append, List.length_cons]
            omega
        have e : k.data.toList.length = k.size := by simp
        omega
    have HK := Lib.hid (fun w hb => HKt.out k (by omega) w hb)
    have b1 := line.keyOf_back (k := k) (s := line.keyT k ++ ⟨#[58, 32]⟩ ++ r) (b := 58 :: 32 :: r.data.toList) (r := r) hu (by simp [ByteArray.data_append]) (.inr ⟨rfl, hP.bl⟩)
    have b2 := line.keyOf_back (k := k) (s := line.keyT k ++ ⟨#[58]⟩) (b := [58]) (r := ⟨#[]⟩) hu (by simp [ByteArray.data_append]) (.inl ⟨rfl, rfl⟩)
    have b3 := line.item_back (r := r) (s := ⟨#[45, 32, 32]⟩ ++ r) (by simp [ByteArray.data_append]) hP.bl
    have b4 := line.item_none hP
    generalize line.keyT k = q at HK b1 b2 hqz
    have z1 : (q ++ ⟨#[58, 32]⟩ : ByteArray).size = q.size + 2 := by rw [ByteArray.size_append]; rfl
    have z2 : (q ++ ⟨#[58, 32]⟩ ++ r : ByteArray).size = q.size + 2 + r.size := by rw [ByteArray.size_append, z1]
    have z3 : (q ++ ⟨#[58]⟩ : ByteArray).size = q.size + 1 := by rw [ByteArray.size_append]; rfl
    have z4 : (⟨#[45, 32, 32]⟩ ++ r : ByteArray).size = 3 + r.size := by rw [ByteArray.size_append]; rfl
    have HK1 := Lib.hid (fun w hb => HKo.out (q ++ ⟨#[58, 32]⟩ ++ r) (by omega) w hb)
    have HK2 := Lib.hid (fun w hb => HKo.out (q ++ ⟨#[58]⟩) (by omega) w hb)
    rw [b1] at HK1
    rw [b2] at HK2
    have HI1 := Lib.hid (fun w => line.impl_item (⟨#[45, 32, 32]⟩ ++ r) w (by omega))
    rw [b3] at HI1
    have HI2 := Lib.hid (fun w => line.impl_item r w (by omega))
    generalize (line.itemOf r).1 = x1 at HI2
    generalize (line.itemOf r).2.1 = x2 at HI2
    rw [b4] at HI2
    have h1 : ¬ 9223372036854775807 < q.size + 2 := by omega
    have h2 : ¬ 9223372036854775807 < (q ++ ⟨#[58, 32]⟩ : ByteArray).size + r.size := by omega
    have h3 : ¬ 9223372036854775807 < q.size + 1 := by omega
    have h4 : ¬ 9223372036854775807 < 3 + r.size := by omega
    clear HKo HKt b1 b2 b3 b4 hu hl hp hP HAB HPi hqz z1 z2 z3 z4
    go_wp2_with fail
    refine (HU.out _).mono ?_
    rintro e w3 ⟨rfl, hb3⟩
    have Hb3 := Lib.hid (Hb2.out.trans (hb3.mono Hb2.out.size))
    clear hb3 Hb2 HU
    go_wp2_with fail
    refine (HPr.out _).mono ?_
    rintro e w4 ⟨rfl, hb4⟩
    have Hb4 := Lib.hid (Hb3.out.trans (hb4.mono Hb3.out.size))
    clear hb4 Hb3 HPr
    go_wp2_with fail
    refine (HK.out _ Hb4.out).mono ?_
    rintro e w5 ⟨rfl, hb5⟩
    have Hb5 := Lib.hid (Hb4.out.trans (hb5.mono Hb4.out.size))
    clear hb5 Hb4
    go_wp2_with fail
    refine (HK1.out _ Hb5.out).mono ?_
    rintro e w6 ⟨rfl, hb6⟩
    have Hb6 := Lib.hid (Hb5.out.trans (hb6.mono Hb5.out.size))
    clear hb6 Hb5 HK1
    go_wp2_with fail
    refine (HK.out _ Hb6.out).mono ?_
    rintro e w7 ⟨rfl, hb7⟩
    have Hb7 := Lib.hid (Hb6.out.trans (hb7.mono Hb6.out.size))
    clear hb7 Hb6 HK
    go_wp2_with fail
    refine (HK2.out _ Hb7.out).mono ?_
    rintro e w8 ⟨rfl, hb8⟩
    have Hb8 := Lib.hid (Hb7.out.trans (hb8.mono Hb7.out.size))
    clear hb8 Hb7 HK2
    go_wp2_with fail
    refine (HI1.out _).mono ?_
    rintro e w9 ⟨rfl, rfl⟩
    clear HI1
    go_wp2_with fail
    refine (HI2.out _).mono ?_
    rintro e w9 ⟨rfl, rfl⟩
    clear HI2
    have q1 : (k.toList == k.toList) = true := by simp
    have q2 : (r.toList == r.toList) = true := by simp
    go_wp2_with fail
    go_ret
    exact ⟨rfl, Hb8.out⟩
  · have HU2 : Hid (∀ w, Calls Tryz.prog 12 #[.string k] w fun e w' => e = .returned (.bool (rune.runesF k).isSome) ∧ Below w.heap.size w w') := by
      intro w
      have h := HU.out w
      cases hl : rune.runesF k with
      | none => rw [(rune.res_none hl).2] at h; exact h
      | some l => rw [(rune.res_some hl).2] at h; exact h
    clear HU HKo HKt
    generalize (rune.runesF k).isSome = b1 at HU2 hgood
    generalize line.plainF r = b2 at HPr HPi hgood
    cases b1 with
    | false =>
      clear hgood
      go_wp2_with fail
      refine (HU2.out _).mono ?_
      rintro e w3 ⟨rfl, hb3⟩
      have Hb3 := Lib.hid (Hb2.out.trans (hb3.mono Hb2.out.size))
      clear hb3 Hb2 HU2
      go_wp2_with fail
      refine (HPi.out _ Hb3.out).mono ?_
      rintro e w4 ⟨rfl, hb4⟩
      have Hb4 := Lib.hid (Hb3.out.trans (hb4.mono Hb3.out.size))
      clear hb4 Hb3 HPi
      go_wp2_with fail
      refine (HPr.out _).mono ?_
      rintro e w5 ⟨rfl, hb5⟩
      have Hb5 := Lib.hid (Hb4.out.trans (hb5.mono Hb4.out.size))
      clear hb5 Hb4 HPr
      go_wp2_with fail
      refine (HAB.out _ Hb5.out).mono ?_
      rintro e w6 ⟨rfl, hb6⟩
      have Hb6 := Lib.hid (Hb5.out.trans (hb6.mono Hb5.out.size))
      clear hb6 Hb5 HAB
      go_wp2_with fail
      go_ret
      exact ⟨rfl, Hb6.out⟩
    | true =>
      cases b2 with
      | true => exact absurd ⟨rfl, rfl⟩ hgood
      | false =>
        clear hgood
        go_wp2_with fail
        refine (HU2.out _).mono ?_
        rintro e w3 ⟨rfl, hb3⟩
        have Hb3 := Lib.hid (Hb2.out.trans (hb3.mono Hb2.out.size))
        clear hb3 Hb2 HU2
        go_wp2_with fail
        refine (HPr.out _).mono ?_
        rintro e w4 ⟨rfl, hb4⟩
        have Hb4 := Lib.hid (Hb3.out.trans (hb4.mono Hb3.out.size))
        clear hb4 Hb3
        go_wp2_with fail
        refine (HPi.out _ Hb4.out).mono ?_
        rintro e w5 ⟨rfl, hb5⟩
        have Hb5 := Lib.hid (Hb4.out.trans (hb5.mono Hb4.out.size))
        clear hb5 Hb4 HPi
        go_wp2_with fail
        refine (HPr.out _).mono ?_
        rintro e w6 ⟨rfl, hb6⟩
        have Hb6 := Lib.hid (Hb5.out.trans (hb6.mono Hb5.out.size))
        clear hb6 Hb5 HPr
        go_wp2_with fail
        refine (HAB.out _ Hb6.out).mono ?_
        rintro e w7 ⟨rfl, hb7⟩
        have Hb7 := Lib.hid (Hb6.out.trans (hb7.mono Hb6.out.size))
        clear hb7 Hb6 HAB
        go_wp2_with fail
        go_ret
        exact ⟨rfl, Hb7.out⟩
end Go.Proofs.YtegpcjkcejijpaaGreatDoor.fnKeys
