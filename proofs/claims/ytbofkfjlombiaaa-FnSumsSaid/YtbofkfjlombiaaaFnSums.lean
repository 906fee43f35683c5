/- FnSums: for every byte slice the law returns true. -/
import Derived.Test.YtbofkfjlombiaaaDrawSeal
import Derived.Test.YtbofkfjlombiaaaUnI
import Derived.Test.YtbofkfjlombiaaaBigL
import Derived.Deep.RegionHeld3
namespace Go.Proofs.Ytbofkfjlombiaaa.fnSums
open Go.ChangeShapes Go.WideShapes Go.ChangeAt Go.RowKit
set_option linter.unusedVariables false

theorem below_chain {v w a b : World} (h : Below v.heap.size w a) (hv : v.heap.size ≤ a.heap.size) (k : Below a.heap.size a b) : Below v.heap.size w b := h.trans (k.mono hv)
theorem below_link {w a b : World} (h : Below w.heap.size w a) (k : Below a.heap.size a b) : Below w.heap.size w b := h.trans (k.mono h.size)

set_option maxRecDepth 100000 in
set_option maxHeartbeats 16000000 in
theorem walk (A : Option Addr) (len cap : Nat) (zs : List Int) (W : World) (hr : IsRow .u8 W A len cap zs) :
    Calls Try.prog 3 #[.slice A len cap] W fun e w' => e = .returned (.bool true) ∧ Below W.heap.size W w' := by
  have hm := hr.le
  have hB := Lib.hid (lawBig.any A len cap W hm)
  unfold maxLen at hm
  by_cases h1 : 1048576 < len
  · clear hr
    go_enter Try.func3, Try.ntmps3
    go_wp2_with fail
    refine hB.out.mono ?_
    rintro e w1 ⟨rfl, rfl⟩
    go_wp2_with fail
    go_ret
    exact ⟨rfl, Below.refl _ _⟩
  have HD := Lib.hid (draw.sealed_any A len cap zs W hr (by omega))
  clear hr
  go_enter Try.func3, Try.ntmps3
  go_wp2_with fail
  refine hB.out.mono ?_
  rintro e w1 ⟨rfl, rfl⟩
  clear hB
  go_wp2_with fail
  refine HD.out.mono ?_
  rintro e w1 ⟨t, ht, rfl, hb1⟩
  clear HD
  have htm : t.size ≤ maxLen := by unfold maxLen; omega
  have HS := Lib.hid (fun w => crc.impl_seal t w htm)
  obtain ⟨k, hk⟩ : ∃ k : Nat, t.size / 2 = k := ⟨_, rfl⟩
  have hkz : (t.size : Int) / 2 = (k : Int) := by omega
  have i0 : (0 : Int) ≤ (k : Int) := by omega
  have i1 : (k : Int) ≤ (t.size : Int) := by omega
  have H1 := Lib.hid (fun w => crc.impl_more 4294967295 (t.extract 0 k) w (by unfold maxLen; rw [ByteArray.size_extract]; omega))
  have H2 := Lib.hid (fun w => crc.impl_more (crc.moreF 4294967295 (t.extract 0 k)) (t.extract k t.size) w (by unfold maxLen; rw [ByteArray.size_extract]; omega))
  have H3 := Lib.hid (fun w => crc.impl_sum ⟨#[49, 50, 51, 52, 53, 54, 55, 56, 57]⟩ w (by unfold maxLen; decide))
  rw [crc.sum_check] at H3
  have H4 := Lib.hid (fun w => crc.impl_sum t w htm)
  have e4 := crc.sum_more t
  rw [crc.more_parts t k (by omega)] at H2
  generalize crc.moreF 4294967295 (t.extract 0 k) = m1 at H1 H2
  generalize crc.moreF 4294967295 t = m at H2 e4
  generalize crc.sumF t = r at H4 e4
  clear hk
  by_cases h20 : t.size ≤ 20000
  · have HU := Lib.hid (fun w => crc.impl_un (crc.sealB t) w (by unfold maxLen; rw [crc.sealB_size]; omega))
    have hsz := crc.sealB_size t
    rw [crc.un_seal t h20] at HU
    rw [crc.seal_yes h20] at HS
    generalize crc.sealB t = s at HS HU hsz
    go_wp2_with fail
    refine (HS.out _).mono ?_
    rintro e w2 ⟨rfl, hb2⟩
    replace hb1 := below_link hb1 hb2
    clear HS hb2
    go_wp2_with fail
    refine (HU.out _).mono ?_
    rintro e w3 ⟨rfl, hb3⟩
    replace hb1 := below_link hb1 hb3
    clear HU hb3
    go_wp2_with fail
    go_region_held3 (fun w' => Below W.heap.size W w') (first | exact hb1.drew | exact below_link (by assumption) (by assumption)) (first | (go_at_call 14; first | ((with_reducible refine (H1.out _).mono ?_); rintro e wa ⟨rfl, hba⟩) | ((with_reducible refine (H2.out _).mono ?_); rintro e wb ⟨rfl, hbb⟩)))
    have hb2 : Below W.heap.size W wb := by assumption
    have Hb2 := Lib.hid hb2
    clear hb2 hb1 H1 H2
    go_wp2_with fail
    refine (H3.out _).mono ?_
    rintro e w4 ⟨rfl, hb3⟩
    have Hb3 := Lib.hid (below_link Hb2.out hb3)
    clear H3 hb3 Hb2
    go_wp2_with fail
    refine (H4.out _).mono ?_
    rintro e w5 ⟨rfl, hb4⟩
    have Hb4 := Lib.hid (below_link Hb3.out hb4)
    clear H4 hb4 Hb3
    go_wp2_with fail
    go_ret
    exact ⟨rfl, Hb4.out⟩
  · have HU := Lib.hid (fun w => crc.impl_un ⟨#[]⟩ w (by unfold maxLen; decide))
    rw [crc.un_no (s := ⟨#[]⟩) (by decide)] at HU
    rw [crc.seal_no h20] at HS
    have h21 : decide ((t.size : Int) ≤ 20000) = false := by simp; omega
    go_wp2_with fail
    refine (HS.out _).mono ?_
    rintro e w2 ⟨rfl, hb2⟩
    replace hb1 := below_link hb1 hb2
    clear HS hb2
    go_wp2_with fail
    refine (HU.out _).mono ?_
    rintro e w3 ⟨rfl, hb3⟩
    replace hb1 := below_link hb1 hb3
    clear HU hb3
    go_wp2_with fail
    go_region_held3 (fun w' => Below W.heap.size W w') (first | exact hb1.drew | exact below_link (by assumption) (by assumption)) (first | (go_at_call 14; first | ((with_reducible refine (H1.out _).mono ?_); rintro e wa ⟨rfl, hba⟩) | ((with_reducible refine (H2.out _).mono ?_); rintro e wb ⟨rfl, hbb⟩)))
    have hb2 : Below W.heap.size W wb := by assumption
    have Hb2 := Lib.hid hb2
    clear hb2 hb1 H1 H2
    go_wp2_with fail
    refine (H3.out _).mono ?_
    rintro e w4 ⟨rfl, hb3⟩
    have Hb3 := Lib.hid (below_link Hb2.out hb3)
    clear H3 hb3 Hb2
    go_wp2_with fail
    refine (H4.out _).mono ?_
    rintro e w5 ⟨rfl, hb4⟩
    have Hb4 := Lib.hid (below_link Hb3.out hb4)
    clear H4 hb4 Hb3
    go_wp2_with fail
    go_ret
    exact ⟨rfl, Hb4.out⟩
end Go.Proofs.Ytbofkfjlombiaaa.fnSums
