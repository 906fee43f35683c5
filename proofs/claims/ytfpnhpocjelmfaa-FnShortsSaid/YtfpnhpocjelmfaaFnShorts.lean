/- FnShorts: for every byte slice the law returns true. -/
import Derived.Test.YtfpnhpocjelmfaaDrawShort
import Derived.Test.YtfpnhpocjelmfaaDrawPlaces
import Derived.Test.YtfpnhpocjelmfaaShortI
import Derived.Test.YtfpnhpocjelmfaaShortS
import Derived.Test.YtfpnhpocjelmfaaReadFixI
import Derived.Test.YtfpnhpocjelmfaaBigL
namespace Go.Proofs.Ytfpnhpocjelmfaa.fnShorts
open Go.ChangeShapes Go.WideShapes Go.ChangeAt Go.RowKit
open varint
set_option linter.unusedVariables false

theorem read_back (l : List UInt8) (hl : l.length ≤ 300) : short.readS (short.shortF ⟨l.toArray⟩ ++ ⟨#[109, 111, 114, 101]⟩) 0 = (⟨l.toArray⟩, ((short.shortF ⟨l.toArray⟩).size : Int)) := by
  rw [short.shortF_list]
  have e : (⟨(varL l.length ++ l).toArray⟩ ++ ⟨#[109, 111, 114, 101]⟩ : ByteArray) = ⟨(varL l.length ++ (l ++ [109, 111, 114, 101])).toArray⟩ := by
    have h := bytes_append (varL l.length ++ l) [109, 111, 114, 101]
    rw [List.append_assoc] at h
    exact h
  have e2 : (⟨(varL l.length ++ l).toArray⟩ : ByteArray).size = (varL l.length).length + l.length := by
    show (varL l.length ++ l).toArray.size = _
    rw [List.size_toArray, List.length_append]
  rw [e, short.read_short l [109, 111, 114, 101] (by omega), e2]
theorem short_abc : short.shortF ⟨#[97, 98, 99]⟩ = ⟨#[3, 97, 98, 99]⟩ := by
  have h := short.shortF_list [97, 98, 99]
  have e : ([97, 98, 99] : List UInt8).length = 3 := rfl
  rw [e, varL_small (by decide)] at h
  exact h
theorem cut_abc : short.readS ((⟨#[3, 97, 98, 99]⟩ : ByteArray).extract 0 3) 0 = (⟨#[]⟩, -1) := by
  have e : (⟨#[3, 97, 98, 99]⟩ : ByteArray).extract 0 3 = ⟨#[3, 97, 98]⟩ := by decide
  rw [e]
  have h := read_var (n := 3) (by decide) [] [97, 98]
  rw [varL_small (by decide)] at h
  have h2 : readF ⟨#[3, 97, 98]⟩ 0 = (3, 1) := h
  unfold short.readS
  rw [h2]
  exact short.rest_no (.inr (by decide))
theorem fix_back (n : Nat) (hn : n ≤ 100000000) : fixed.readF (⟨#[97]⟩ ++ fixed.fixF (n : Int) 4) 1 4 = some (n : Int) ∧ (fixed.fixF (n : Int) 4).size = 4 := by
  have hlt : n < 2 ^ (8 * 4) := by show n < 4294967296; omega
  have e0 : fixed.fixF (n : Int) 4 = ⟨(fixed.fixL n 4).toArray⟩ := fixed.fix_yes (w := 4) (by decide) (by decide) hlt
  have h := fixed.read_fix (n := n) (w := 4) [97] (by decide) (by decide) hlt (by omega)
  rw [e0]
  have e : (⟨#[97]⟩ ++ ⟨(fixed.fixL n 4).toArray⟩ : ByteArray) = ⟨([97] ++ fixed.fixL n 4).toArray⟩ := bytes_append [97] _
  rw [e]
  refine ⟨h, ?_⟩
  show (fixed.fixL n 4).toArray.size = 4
  rw [List.size_toArray, fixed.fixL_length]
theorem fix_256 : fixed.fixF 256 1 = ⟨#[]⟩ := fixed.fix_over (n := 256) (w := 1) (by decide)

set_option maxRecDepth 100000 in
set_option maxHeartbeats 16000000 in
theorem walk (A : Option Addr) (len cap : Nat) (zs : List Int) (W : World) (hr : IsRow .u8 W A len cap zs) :
    Calls Try.prog 4 #[.slice A len cap] W fun e w' => e = .returned (.bool true) ∧ Below W.heap.size W w' := by
  have hm := hr.le
  have hB := Lib.hid (lawBig.any A len cap W hm)
  unfold maxLen at hm
  by_cases h1 : 1048576 < len
  · clear hr
    go_enter Try.func4, Try.ntmps4
    go_wp2_with fail
    refine hB.out.mono ?_
    rintro e w1 ⟨rfl, rfl⟩
    go_wp2_with fail
    go_ret
    exact ⟨rfl, Below.refl _ _⟩
  have HD := Lib.hid (draw.shortText_any A len cap zs W hr (by omega))
  have HP := Lib.hid (fun w h => draw.places_any A len cap zs w h (by omega))
  have Hr := Lib.hid hr
  clear hr
  go_enter Try.func4, Try.ntmps4
  go_wp2_with fail
  refine hB.out.mono ?_
  rintro e w1 ⟨rfl, rfl⟩
  clear hB
  go_wp2_with fail
  refine HD.out.mono ?_
  rintro e w1 ⟨l, hl, rfl, hb1⟩
  clear HD
  have hsz : (⟨l.toArray⟩ : ByteArray).size = l.length := by show l.toArray.size = _; rw [List.size_toArray]
  have hfz : (short.shortF ⟨l.toArray⟩).size ≤ 400 := by
    unfold short.shortF
    rw [ByteArray.size_append]
    have := varF_size (n := ((⟨l.toArray⟩ : ByteArray).size : Int)) (by omega)
    omega
  have K1 := Lib.hid (fun w => short.impl_short ⟨l.toArray⟩ w (by unfold maxLen; omega) (by omega))
  have K2 := Lib.hid (fun w => short.impl_read (short.shortF ⟨l.toArray⟩ ++ ⟨#[109, 111, 114, 101]⟩) 0 w (by
    unfold maxLen
    rw [ByteArray.size_append]
    show _ + 4 ≤ _
    omega) ⟨by decide, by decide⟩)
  rw [read_back l hl] at K2
  have K3 := Lib.hid (fun w => short.spec_short ⟨#[97, 98, 99]⟩ w (by unfold maxLen; decide) (by decide))
  rw [short_abc] at K3
  have K4 := Lib.hid (fun w => short.impl_read ((⟨#[3, 97, 98, 99]⟩ : ByteArray).extract 0 3) 0 w (by unfold maxLen; decide) ⟨by decide, by decide⟩)
  rw [cut_abc] at K4
  have hq : (⟨#[3, 97, 98, 99]⟩ : ByteArray).size = 4 := rfl
  have K5 := Lib.hid (fun w => fixed.impl_any 256 1 w (by decide))
  rw [fix_256] at K5
  generalize (⟨#[3, 97, 98, 99]⟩ : ByteArray) = q at K3 K4 hq
  generalize short.shortF ⟨l.toArray⟩ = F at K1 K2 hfz
  generalize (⟨l.toArray⟩ : ByteArray) = s at K1 K2 hsz
  have hF4 : ¬ 9223372036854775807 < F.size + 4 := by omega
  go_wp2_with fail
  refine (K1.out _).mono ?_
  rintro e w2 ⟨rfl, hb2⟩
  have hb12 := hb1.trans (hb2.mono hb1.size)
  clear hb1 hb2
  go_wp2_with fail
  refine (K2.out _).mono ?_
  rintro e w3 ⟨rfl, hb3⟩
  have hb13 := hb12.trans (hb3.mono hb12.size)
  clear K2 hb12 hb3 hF4
  have HQ := Lib.hid (HP.out w3 (Hr.out.below hb13))
  clear HP Hr
  go_wp2_with fail
  refine HQ.out.mono ?_
  clear HQ
  rintro e w4 ⟨v, ls, rfl, hll, hall, hown, hb4⟩
  obtain ⟨B, cc, rfl, _, _, hrd⟩ := Rd.of_own hown
  obtain ⟨g, o, rfl, hg, hcell⟩ := hrd.2 (by decide)
  match ls, hll with
  | [p0, p1, p2, p3, p4, p5, p6, p7, p8, p9, p10, p11], _ =>
  have hc : ∀ j, j < 12 → ∀ u, (icells [p0, p1, p2, p3, p4, p5, p6, p7, p8, p9, p10, p11])[j]? = some u → w4.cell? ⟨g, o + j, none⟩ = some u := hcell
  have b0 := hall p0 (by simp)
  have b1 := hall p1 (by simp)
  have c0 : w4.cell? ⟨g, o, none⟩ = some (.int .i64 p0) := hc 0 (by decide) _ rfl
  have c1 : w4.cell? ⟨g, o + 1, none⟩ = some (.int .i64 p1) := hc 1 (by decide) _ rfl
  have Hb14 := Lib.hid (hb13.trans (hb4.mono hb13.size))
  clear hc hcell hall hrd hown hb13 hb4
  have e1 : IntKind.i64.wrap (p0 * 10000) = p0 * 10000 := IntWalk.i64_in _ (by omega)
  have e2 : IntKind.i64.wrap (p0 * 10000 + p1) = p0 * 10000 + p1 := IntWalk.i64_in _ (by omega)
  go_wp2_with fail
  go_quiet (fail)
  clear e1 e2 c0 c1
  have hn : 0 ≤ p0 * 10000 + p1 ∧ p0 * 10000 + p1 ≤ 100000000 := by omega
  generalize p0 * 10000 + p1 = n at hn ⊢
  obtain ⟨u, rfl⟩ := Int.eq_ofNat_of_zero_le hn.1
  obtain ⟨hfb, hfs⟩ := fix_back u (by omega)
  have K6 := Lib.hid (fun w => fixed.impl_any (u : Int) 4 w (by omega))
  have K7 := Lib.hid (fun w => fixed.impl_read (⟨#[97]⟩ ++ fixed.fixF (u : Int) 4) 1 4 w (by
    unfold maxLen
    rw [ByteArray.size_append, hfs]
    show 1 + 4 ≤ _
    decide))
  rw [hfb, arith.two_some] at K7
  clear hfb hn b0 b1
  generalize fixed.fixF (u : Int) 4 = f at K6 K7 hfs
  have hf1 : ¬ 9223372036854775807 < 1 + f.size := by omega
  have Hb14' := Lib.hid (below_drewN Hb14.out nq)
  generalize w4.drewN nq = w5 at Hb14' ⊢
  clear Hb14 hg
  go_wp2_with fail
  refine (K6.out _).mono ?_
  rintro e w6 ⟨rfl, hb6⟩
  have hbx6 := Hb14'.out.trans (hb6.mono Hb14'.out.size)
  clear K6 hb6 Hb14'
  go_wp2_with fail
  refine (K7.out _).mono ?_
  rintro e w7 ⟨rfl, hb7⟩
  have hbx7 := hbx6.trans (hb7.mono hbx6.size)
  clear K7 hb7 hbx6 hf1
  go_wp2_with fail
  refine (K3.out _).mono ?_
  rintro e w8 ⟨rfl, hb8⟩
  have hbx8 := hbx7.trans (hb8.mono hbx7.size)
  clear K3 hb8 hbx7
  go_wp2_with fail
  refine (K4.out _).mono ?_
  rintro e w9 ⟨rfl, hb9⟩
  have hbx9 := hbx8.trans (hb9.mono hbx8.size)
  clear K4 hb9 hbx8
  go_wp2_with fail
  refine (K1.out _).mono ?_
  rintro e w10 ⟨rfl, hb10⟩
  have hbx10 := hbx9.trans (hb10.mono hbx9.size)
  clear K1 hb10 hbx9
  go_wp2_with fail
  refine (K5.out _).mono ?_
  rintro e w11 ⟨rfl, hb11⟩
  have hbx11 := hbx10.trans (hb11.mono hbx10.size)
  clear K5 hb11 hbx10
  go_wp2_with fail
  go_ret
  exact ⟨rfl, hbx11⟩
end Go.Proofs.Ytfpnhpocjelmfaa.fnShorts
