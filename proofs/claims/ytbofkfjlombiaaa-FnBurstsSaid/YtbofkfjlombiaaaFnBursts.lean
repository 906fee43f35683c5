/- FnBursts: for every byte slice the law returns true. -/
import Derived.Test.YtbofkfjlombiaaaDrawSeal
import Derived.Test.YtbofkfjlombiaaaDrawPlaces
import Derived.Test.YtbofkfjlombiaaaUnI
import Derived.Test.YtbofkfjlombiaaaFlipI
import Derived.Test.YtbofkfjlombiaaaBigL
import Derived.BigQuiet
namespace Go.Proofs.Ytbofkfjlombiaaa.fnBursts
open Go.ChangeShapes Go.WideShapes Go.ChangeAt Go.RowKit
set_option linter.unusedVariables false

theorem below_link {w a b : World} (h : Below w.heap.size w a) (k : Below a.heap.size a b) : Below w.heap.size w b := h.trans (k.mono h.size)

set_option maxRecDepth 100000 in
set_option maxHeartbeats 16000000 in
theorem walk (A : Option Addr) (len cap : Nat) (zs : List Int) (W : World) (hr : IsRow .u8 W A len cap zs) :
    Calls Try.prog 4 #[.slice A len cap] W fun e w' => e = .returned (.bool true) ∧ Below W.heap.size W w' := by
  have hm := hr.le
  have hB := Lib.hid (lawBig.any A len cap W hm)
  unfold maxLen at hm
  by_cases h1 : 1048576 < len
  · clear hr
    go_enter Try.func4, Try.ntmps4
    go_wp2_with fail
    refine hB.out.mono ?_
    rintro e w1 ⟨rfl, rfl⟩
    go_wp2_with fail
    go_ret
    exact ⟨rfl, Below.refl _ _⟩
  have HP := Lib.hid (draw.places_any A len cap zs W hr (by omega))
  have HD := Lib.hid (fun w h => draw.sumOf_any A len cap zs w h (by omega))
  have Hr := Lib.hid hr
  clear hr
  go_enter Try.func4, Try.ntmps4
  go_wp2_with fail
  refine hB.out.mono ?_
  rintro e w1 ⟨rfl, rfl⟩
  clear hB
  go_wp2_with fail
  refine HP.out.mono ?_
  clear HP
  rintro e w1 ⟨v, ls, rfl, hll, hall, hown, hb1⟩
  obtain ⟨C, cc, rfl, _, _, hrd⟩ := Rd.of_own hown
  have Hrd := Lib.hid hrd
  have HQ := Lib.hid (HD.out w1 (Hr.out.below hb1))
  have Hb1 := Lib.hid hb1
  clear hrd hown HD Hr hb1
  go_wp2_with fail
  refine HQ.out.mono ?_
  clear HQ
  rintro e w2 ⟨t, ht, rfl, hb2⟩
  have Hrd2 := Lib.hid (Hrd.out.below hb2)
  have Hb2 := Lib.hid (below_link Hb1.out hb2)
  clear hb2 Hrd Hb1
  have htm : t.size ≤ maxLen := by unfold maxLen; omega
  have HS := Lib.hid (fun w => crc.impl_seal t w htm)
  rw [crc.seal_yes (by omega)] at HS
  have hsz := crc.sealB_size t
  go_wp2_with fail
  refine (HS.out _).mono ?_
  clear HS
  rintro e w3 ⟨rfl, hb3⟩
  have hrd3 := Hrd2.out.below hb3
  have Hb3 := Lib.hid (below_link Hb2.out hb3)
  clear hb3 Hrd2 Hb2
  obtain ⟨g, o, rfl, hg, hcell⟩ := hrd3.2 (by decide)
  match ls, hll with
  | [p0, p1, p2, p3, p4, p5, p6, p7, p8, p9, p10, p11], _ =>
  have hc : ∀ j, j < 12 → ∀ u, (icells [p0, p1, p2, p3, p4, p5, p6, p7, p8, p9, p10, p11])[j]? = some u → w3.cell? ⟨g, o + j, none⟩ = some u := hcell
  have b0 := hall p0 (by simp)
  have b1 := hall p1 (by simp)
  have b2 := hall p2 (by simp)
  have c0 : w3.cell? ⟨g, o, none⟩ = some (.int .i64 p0) := hc 0 (by decide) _ rfl
  have c1 : w3.cell? ⟨g, o + 1, none⟩ = some (.int .i64 p1) := hc 1 (by decide) _ rfl
  have c2 : w3.cell? ⟨g, o + 2, none⟩ = some (.int .i64 p2) := hc 2 (by decide) _ rfl
  clear hc hcell hall hrd3
  have e1 : IntKind.i64.wrap (p0 * 10000) = p0 * 10000 := IntWalk.i64_in _ (by omega)
  have e2 : IntKind.i64.wrap (p0 * 10000 + p1) = p0 * 10000 + p1 := IntWalk.i64_in _ (by omega)
  have e3 : IntKind.i64.wrap (2 * (p0 * 10000 + p1)) = 2 * (p0 * 10000 + p1) := IntWalk.i64_in _ (by omega)
  have e5 : IntKind.i64.wrap (1 + 2 * (p0 * 10000 + p1)) = 1 + 2 * (p0 * 10000 + p1) := IntWalk.i64_in _ (by omega)
  go_wp2_with fail
  go_quiet (fail)
  clear e1 e2 e3 e5 c0 c1
  obtain ⟨B, hBd⟩ : ∃ B : Nat, 1 + 2 * (p0 * 10000 + p1) = (B : Int) := ⟨(1 + 2 * (p0 * 10000 + p1)).toNat, by omega⟩
  have hB32 : B < 4294967296 := by omega
  have hB2 : B % 2 = 1 := by omega
  generalize 1 + 2 * (p0 * 10000 + p1) = b at hBd ⊢
  subst hBd
  have hpos : (0 : Int) < 8 * ((t.size : Int) + 4) := by omega
  have hm0 := Int.emod_nonneg p2 (show (8 * ((t.size : Int) + 4)) ≠ 0 by omega)
  have hm1 := Int.emod_lt_of_pos p2 hpos
  obtain ⟨q, hq⟩ := Int.eq_ofNat_of_zero_le hm0
  have hqt : p2.tmod (8 * ((t.size : Int) + 4)) = (q : Int) := by rw [Int.tmod_eq_emod_of_nonneg b2.1]; exact hq
  rw [hq] at hm1
  have hql : q < 8 * (t.size + 4) := by omega
  have hss : (crc.sealB t).size ≤ 1048576 := by omega
  have HF1 := Lib.hid (fun w => crc.impl_flip (crc.sealB t) q B w (by omega) hss)
  have hfs := crc.flipF_size (crc.sealB t) q B hB32
  have HU := Lib.hid (fun w => crc.impl_un (crc.flipF (crc.sealB t) q B) w (by unfold maxLen; rw [hfs]; omega))
  rw [crc.un_flip t q B hB32 hB2 hql] at HU
  have HF2 := Lib.hid (fun w => crc.impl_flip (crc.flipF (crc.sealB t) q B) q B w (by omega) (by rw [hfs]; exact hss))
  rw [crc.flipF_back (crc.sealB t) q B hB32] at HF2
  have hne : ((crc.flipF (crc.sealB t) q B).toList == (crc.sealB t).toList) = false := by
    rw [crc.list_eq, crc.list_eq]
    exact beq_eq_false_iff_ne.2 fun e => crc.flipF_ne (crc.sealB t) q B hB32 hB2 (by omega) (crc.bytes_ext e)
  generalize crc.flipF (crc.sealB t) q B = x at HF1 HU HF2 hfs hne
  generalize crc.sealB t = s at HF1 HF2 hfs hne hss hsz ⊢
  have c2' : (w3.drewN nq).cell? ⟨g, o + 2, none⟩ = some (.int .i64 p2) := c2
  have Hb4 := Lib.hid (below_drewN Hb3.out nq)
  generalize w3.drewN nq = w4 at c2' Hb4 ⊢
  clear c2 Hb3 hg b0 b1 hm0 hm1 hss hsz hql hB2
  go_wp2_with fail
  refine (HF1.out _).mono ?_
  rintro e w5 ⟨rfl, hb5⟩
  have Hb5 := Lib.hid (below_link Hb4.out hb5)
  clear HF1 hb5 Hb4 c2' hq hqt
  go_wp2_with fail
  refine (HU.out _).mono ?_
  rintro e w6 ⟨rfl, hb6⟩
  have Hb6 := Lib.hid (below_link Hb5.out hb6)
  clear HU hb6 Hb5
  go_wp2_with fail
  refine (HF2.out _).mono ?_
  rintro e w7 ⟨rfl, hb7⟩
  have Hb7 := Lib.hid (below_link Hb6.out hb7)
  clear HF2 hb7 Hb6
  go_wp2_with fail
  go_ret
  exact ⟨rfl, Hb7.out⟩
end Go.Proofs.Ytbofkfjlombiaaa.fnBursts
