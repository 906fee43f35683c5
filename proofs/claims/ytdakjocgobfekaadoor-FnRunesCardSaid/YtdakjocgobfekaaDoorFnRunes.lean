/- FnRunes: for every byte slice the law returns true. -/
import Derived.Test.YtdakjocgobfekaaDoorDrawRune
import Derived.Test.YtdakjocgobfekaaDoorRtI
import Derived.Test.YtdakjocgobfekaaDoorRnsI
import Derived.Test.YtdakjocgobfekaaDoorRnsS
import Derived.Test.YtdakjocgobfekaaDoorSameInts
import Derived.Test.YtdakjocgobfekaaDoorBigL
namespace Go.Proofs.YtdakjocgobfekaaDoor.fnRunes
open Go.ChangeShapes Go.WideShapes Go.ChangeAt Go.RowKit
open rune
set_option linter.unusedVariables false

theorem euro : textF 8364 = ⟨#[226, 130, 172]⟩ := by
  have h := text_yes (n := 8364) (by decide)
  refine Eq.trans h ?_
  decide
/-- The text behind one letter, read at place 1. -/
theorem at_behind (n : Int) (h : okR n = true) : atF (⟨#[97]⟩ ++ textF n) 1 = (n, 1 + ((textF n).size : Int)) := by
  obtain ⟨m, rfl⟩ := Int.eq_ofNat_of_zero_le ((okR_iff n).1 h).1
  have hv := (okR_nat m).1 h
  have hz := text_size hv
  have hs : (⟨#[97]⟩ ++ textF (m : Int) : ByteArray).size = 1 + (enc m).length := by
    rw [ByteArray.size_append, hz]
    rfl
  have hi : Is (⟨#[97]⟩ ++ textF (m : Int)) 1 m := by
    refine (is_extract (by omega) hv).2 ?_
    apply ByteArray.ext
    apply Array.ext'
    rw [ByteArray.data_extract, Array.toList_extract, List.extract_eq_take_drop, Nat.add_sub_cancel_left]
    have e1 : (⟨#[97]⟩ ++ textF (m : Int) : ByteArray).data.toList = [97] ++ (textF (m : Int)).data.toList := by simp
    rw [e1, List.drop_append_of_le_length (by simp)]
    simp only [List.drop_succ_cons, List.drop_zero, List.nil_append]
    have e2 : (textF (m : Int)).data.toList.length = (enc m).length := by rw [← hz]; simp
    rw [List.take_of_length_le (by omega)]
  have h1 := at_yes hi
  rw [hz]
  refine Eq.trans h1 ?_
  rw [Int.natCast_add]
  rfl
theorem at_alone : atF ⟨#[97]⟩ 1 = (0, -1) := at_out (by decide)

set_option maxRecDepth 100000 in
set_option maxHeartbeats 4000000 in
theorem walk (A : Option Addr) (len cap : Nat) (zs : List Int) (W : World) (hr : IsRow .u8 W A len cap zs) (hT : Tabs W) :
    Calls Tryd.prog 3 #[.slice A len cap] W fun e w' => e = .returned (.bool true) ∧ Below W.heap.size W w' := by
  have hm := hr.le
  have hB := Lib.hid (lawBig.any A len cap W hm)
  unfold maxLen at hm
  by_cases h1 : 1048576 < len
  · clear hr hT
    go_enter Tryd.func3, Tryd.ntmps3
    go_wp2_with fail
    refine hB.out.mono ?_
    rintro e w1 ⟨rfl, rfl⟩
    go_wp2_with fail
    go_ret
    exact ⟨rfl, Below.refl _ _⟩
  have HD := Lib.hid (draw.runesText_any A len cap zs W hr (by omega))
  have HN := Lib.hid (fun w1 (hb : Below W.heap.size W w1) => draw.runeText_any A len cap zs w1 (hr.below hb) (by omega))
  have HT := Lib.hid (fun w1 (hb : Below W.heap.size W w1) => hT.below hb)
  clear hr hT
  go_enter Tryd.func3, Tryd.ntmps3
  go_wp2_with fail
  refine hB.out.mono ?_
  rintro e w1 ⟨rfl, rfl⟩
  clear hB
  go_wp2_with fail
  refine HD.out.mono ?_
  rintro e w1 ⟨v, l, rfl, hl, hwf, hown, hb1⟩
  clear HD
  obtain ⟨A1, c1, rfl, hn1, hc1, hr1⟩ := Rd.of_own hown
  have HJ := Lib.hid (impl_join A1 l.length c1 l w1 (by omega) rfl hr1)
  have hres := res_some (runes_text l)
  have hback := Lib.hid (join_filter l)
  have hsz : (joinF l).size ≤ 32 := by
    have := joinL_le l
    rw [joinF_size]
    omega
  have hfl : (l.filter (fun n => okR n)).length ≤ 8 := Nat.le_trans (List.length_filter_le _ _) hl
  generalize l.filter (fun n => okR n) = r at hres hback hfl
  have Hb1 := Lib.hid hb1
  clear hown hr1 hwf hb1 hn1
  generalize hs : joinF l = s at HJ hres hsz hback
  clear hs
  go_wp2_with fail
  refine HJ.out.mono ?_
  rintro e w2 ⟨rfl, hb2⟩
  have Hb2 := Lib.hid (Hb1.out.trans (hb2.mono Hb1.out.size))
  clear HJ hb2 Hb1
  have HR := Lib.hid (fun w hT => impl_runes s w (by omega) hT)
  have HS := Lib.hid (fun w => spec_runes s w (by omega))
  have HU := Lib.hid (fun w hT => impl_utf s w (by omega) hT)
  rw [hres.1, hres.2] at HR HS
  rw [hres.2] at HU
  clear hres hsz
  go_wp2_with fail
  refine (HR.out _ (HT.out _ Hb2.out)).mono ?_
  rintro e w3 ⟨v3, rfl, hown3, hb3⟩
  clear HR
  obtain ⟨A3, c3, rfl, hn3, hc3, hr3⟩ := Rd.of_own hown3
  have Hb3 := Lib.hid (Hb2.out.trans (hb3.mono Hb2.out.size))
  clear hown3 hb3 Hb2 hn3 hc3
  go_wp2_with fail
  refine (HS.out _).mono ?_
  rintro e w4 ⟨v4, rfl, hown4, hb4⟩
  clear HS
  obtain ⟨A4, c4, rfl, hn4, hc4, hr4⟩ := Rd.of_own hown4
  have Hb4 := Lib.hid (Hb3.out.trans (hb4.mono Hb3.out.size))
  have hr34 := hr3.below hb4
  clear hown4 hb4 Hb3 hn4 hc4 hr3
  go_wp2_with fail
  refine (HN.out _ Hb4.out).mono ?_
  rintro e w5 ⟨n, hn, rfl, hb5⟩
  clear HN hn
  have Hb5 := Lib.hid (Hb4.out.trans (hb5.mono Hb4.out.size))
  have hr35 := hr34.below hb5
  have hr45 := hr4.below hb5
  clear hb5 Hb4 hr34 hr4
  have HX := Lib.hid (fun w => impl_text n w)
  have HO := Lib.hid (fun w => impl_ok n w)
  have HE := Lib.hid (fun w => impl_text 8364 w)
  rw [euro] at HE
  cases ho : okR n with
  | false =>
    rw [text_no ho] at HX
    rw [ho] at HO
    have HA := Lib.hid (fun w hT => impl_at ⟨#[97]⟩ 1 w (by decide) hT)
    rw [at_alone] at HA
    have e1 : (⟨#[97]⟩ ++ ⟨#[]⟩ : ByteArray) = ⟨#[97]⟩ := by decide
    clear ho
    go_wp2_with fail
    refine (HX.out _).mono ?_
    rintro e w6 ⟨rfl, rfl⟩
    clear HX
    go_wp2_with fail
    refine (HA.out _ (HT.out _ Hb5.out)).mono ?_
    rintro e w7 ⟨rfl, hb7⟩
    clear HA
    have Hb7 := Lib.hid (Hb5.out.trans (hb7.mono Hb5.out.size))
    have hr37 := hr35.below hb7
    have hr47 := hr45.below hb7
    clear hr35 hr45 hb7 Hb5
    go_wp2_with fail
    refine (sameInts.eq_yes A3 A4 r.length c3 c4 r _ (by unfold maxLen; omega) rfl hr37 hr47).mono ?_
    rintro e w8' ⟨rfl, q, rfl⟩
    have Hb8 := Lib.hid (below_drewN Hb7.out q)
    have hr38 := hr37.drewN q
    generalize w7.drewN q = w8 at Hb8 hr38
    clear hr37 hr47 Hb7
    go_wp2_with fail
    refine (HU.out _ (HT.out _ Hb8.out)).mono ?_
    rintro e w9 ⟨rfl, hb9⟩
    have Hb9 := Lib.hid (Hb8.out.trans (hb9.mono Hb8.out.size))
    have HJ2 := Lib.hid (impl_join A3 r.length c3 r w9 (by omega) rfl (hr38.below hb9))
    rw [hback.out] at HJ2
    clear HU hr38 hb9 Hb8
    go_wp2_with fail
    refine HJ2.out.mono ?_
    rintro e w10 ⟨rfl, hb10⟩
    have Hb10 := Lib.hid (Hb9.out.trans (hb10.mono Hb9.out.size))
    clear HJ2 hb10 Hb9
    go_wp2_with fail
    refine (HO.out _).mono ?_
    rintro e w11 ⟨rfl, rfl⟩
    clear HO
    go_wp2_with fail
    refine (HE.out _).mono ?_
    rintro e w11 ⟨rfl, rfl⟩
    clear HE
    go_wp2_with fail
    go_ret
    exact ⟨rfl, Hb10.out⟩
  | true =>
    have hpos := text_pos.2 ho
    have h4 := text_le n
    have HA := Lib.hid (fun w hT => impl_at (⟨#[97]⟩ ++ textF n) 1 w (by rw [ByteArray.size_append]; unfold maxLen; have e : (⟨#[97]⟩ : ByteArray).size = 1 := rfl; omega) hT)
    rw [at_behind n ho] at HA
    rw [ho] at HO
    generalize textF n = t at HX HA hpos h4
    have hne := empty_no hpos
    have hadd : ¬ 9223372036854775807 < (⟨#[97]⟩ : ByteArray).size + t.size := by have e : (⟨#[97]⟩ : ByteArray).size = 1 := rfl; omega
    clear ho
    go_wp2_with fail
    refine (HX.out _).mono ?_
    rintro e w6 ⟨rfl, rfl⟩
    clear HX
    go_wp2_with fail
    refine (HA.out _ (HT.out _ Hb5.out)).mono ?_
    rintro e w7 ⟨rfl, hb7⟩
    clear HA
    have Hb7 := Lib.hid (Hb5.out.trans (hb7.mono Hb5.out.size))
    have hr37 := hr35.below hb7
    have hr47 := hr45.below hb7
    clear hr35 hr45 hb7 Hb5
    go_wp2_with fail
    refine (sameInts.eq_yes A3 A4 r.length c3 c4 r _ (by unfold maxLen; omega) rfl hr37 hr47).mono ?_
    rintro e w8' ⟨rfl, q, rfl⟩
    have Hb8 := Lib.hid (below_drewN Hb7.out q)
    have hr38 := hr37.drewN q
    generalize w7.drewN q = w8 at Hb8 hr38
    clear hr37 hr47 Hb7
    go_wp2_with fail
    refine (HU.out _ (HT.out _ Hb8.out)).mono ?_
    rintro e w9 ⟨rfl, hb9⟩
    have Hb9 := Lib.hid (Hb8.out.trans (hb9.mono Hb8.out.size))
    have HJ2 := Lib.hid (impl_join A3 r.length c3 r w9 (by omega) rfl (hr38.below hb9))
    rw [hback.out] at HJ2
    clear HU hr38 hb9 Hb8
    go_wp2_with fail
    refine HJ2.out.mono ?_
    rintro e w10 ⟨rfl, hb10⟩
    have Hb10 := Lib.hid (Hb9.out.trans (hb10.mono Hb9.out.size))
    clear HJ2 hb10 Hb9
    go_wp2_with fail
    refine (HO.out _).mono ?_
    rintro e w11 ⟨rfl, rfl⟩
    clear HO
    go_wp2_with fail
    refine (HE.out _).mono ?_
    rintro e w11 ⟨rfl, rfl⟩
    clear HE
    go_wp2_with fail
    go_ret
    exact ⟨rfl, Hb10.out⟩
end Go.Proofs.YtdakjocgobfekaaDoor.fnRunes
