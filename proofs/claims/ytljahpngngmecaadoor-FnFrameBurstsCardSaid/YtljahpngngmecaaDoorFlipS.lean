/- spec.Flipped. -/
import Derived.Test.YtljahpngngmecaaDoorSumM
import Derived.Test.YtljahpngngmecaaDoorInS
import Derived.Test.YtljahpngngmecaaDoorBytesOf
namespace Go.Proofs.YtljahpngngmecaaDoor.crc
open Go.ChangeShapes Go.WideShapes Go.ChangeAt Go.RowKit
set_option linter.unusedVariables false

set_option maxRecDepth 100000 in
theorem spec_flip (s : ByteArray) (a b : Int) (w : World) (ha : -9223372036854775808 ≤ a ∧ a ≤ 9223372036854775807) (hs : s.size ≤ 1048576) :
    Calls Tryd.prog 19 #[.string s, .int .i64 a, .int .i64 b] w fun e w' => e = .returned (.string (flipF s a b)) ∧ Below w.heap.size w w' := by
  by_cases h0 : a < 0
  · rw [flipF_no (by omega)]
    go_enter Tryd.func19, Tryd.ntmps19
    go_wp2_with fail
    go_ret
    exact ⟨rfl, Below.refl _ _⟩
  by_cases h1 : 0 ≤ b ∧ b ≤ 4294967295
  case neg =>
    rw [flipF_no (by omega)]
    have HI := Lib.hid (fun w => arith.in_no b 0 4294967295 w (by omega))
    clear h1
    go_enter Tryd.func19, Tryd.ntmps19
    go_wp2_with fail
    refine (HI.out _).mono ?_
    rintro e w1 ⟨rfl, rfl⟩
    clear HI
    go_wp2_with fail
    go_ret
    exact ⟨rfl, Below.refl _ _⟩
  obtain ⟨p, rfl⟩ := Int.eq_ofNat_of_zero_le (by omega : 0 ≤ a)
  obtain ⟨B, rfl⟩ := Int.eq_ofNat_of_zero_le h1.1
  have hB : B < 4294967296 := by omega
  have HI := Lib.hid (fun w => arith.in_yes B 0 4294967295 w (by omega) (by omega))
  by_cases h2 : 8 * s.size < p
  · rw [flipF_far s p B hB (by omega)]
    go_enter Tryd.func19, Tryd.ntmps19
    go_wp2_with fail
    refine (HI.out _).mono ?_
    rintro e w1 ⟨rfl, rfl⟩
    clear HI
    go_wp2_with fail
    go_ret
    exact ⟨rfl, Below.refl _ _⟩
  have HE := Lib.hid (fun i h => fl_end s p B i hB h)
  generalize flipF s p B = F at HE
  go_enter Tryd.func19, Tryd.ntmps19
  go_wp2_with fail
  refine (HI.out _).mono ?_
  rintro e w1 ⟨rfl, rfl⟩
  clear HI
  obtain ⟨cap, w2, hcv, hb2, hl2⟩ := binfo.of_bytes s w
  have Hb2 := Lib.hid hb2
  have Hl2 := Lib.hid hl2
  clear hb2 hl2
  go_wp2_with fail
  clear hcv
  go_loopw [8] (fun j wr => ∃ i : Nat, i ≤ 32 ∧ j = .int .i64 i ∧ binfo.Live wr w.heap.size (fl s p B i) ∧ Below w.heap.size w wr) (fun j _ => 32 - (intOf j).toNat)
  case atStart => exact ⟨0, by omega, rfl, by rw [fl_zero]; exact Hl2.out, Hb2.out⟩
  case round =>
    clear Hb2 Hl2
    obtain ⟨i, hi, rfl, hlive, hbel⟩ := hrel
    by_cases hgo : i < 32 ∧ p + i < 8 * s.size
    case neg =>
      have hconv := binfo.back (cap := cap) (fl_length s p B i) hlive
      have He := Lib.hid (HE.out i (by omega))
      clear hlive HE
      by_cases h3 : i < 32
      · have h4 : ¬ (p + i < 8 * s.size) := fun h => hgo ⟨h3, h⟩
        clear hgo
        go_wp2_with fail
        go_ret
        exact ⟨by rw [← He.out]; rfl, hbel⟩
      · clear hgo
        go_wp2_with fail
        go_ret
        exact ⟨by rw [← He.out]; rfl, hbel⟩
    obtain ⟨h3, h4⟩ := hgo
    have esh : ((i : Int)).toNat = i := by omega
    have ebit := shr_bit B i hB
    rcases Nat.mod_two_eq_zero_or_one (B / 2 ^ i) with hbit | hbit
    · rw [hbit] at ebit
      have Hl := Lib.hid hlive
      rw [← fl_no s p B i hbit] at Hl
      have Hb := Lib.hid hbel
      clear hlive hbel hbit
      go_wp2_with fail
      go_roundw
      case rel => exact ⟨i + 1, by omega, by go_num, Hl.out, Hb.out⟩
      case measure => simp [intOf]; omega
    · rw [hbit] at ebit
      obtain ⟨k, hk⟩ : ∃ k, (p + i) / 8 = k := ⟨_, rfl⟩
      have hks : k < s.size := by omega
      have hlen := fl_length s p B i
      have Hset := Lib.hid (fl_yes s p B i hbit (by omega))
      rw [hk] at Hset
      have hk2 : k < (fl s p B i).length := by omega
      have hc := (hlive k hk2).1
      have hf := (hlive k hk2).2
      have hst := binfo.live_set hlive k (UInt8.ofNat (((fl s p B i).getD k 0).toNat ^^^ 2 ^ ((p + i) % 8))) hk2
      rw [← Hset.out] at hst
      have hgd : (fl s p B i).getD k 0 = (fl s p B i)[k] := by rw [List.getD_eq_getElem?_getD, List.getElem?_eq_getElem hk2, Option.getD_some]
      rw [hgd] at hst
      have hx := xor_u8 ((fl s p B i)[k]).toNat (2 ^ ((p + i) % 8)) ((fl s p B i)[k]).toNat_lt (bit_lt _)
      have hy := byte_xor (fl s p B i)[k] (2 ^ ((p + i) % 8)) (bit_lt _)
      rw [hy] at hst
      have hol := ((fl s p B i)[k]).toNat_lt
      generalize ((fl s p B i)[k]).toNat = old at hst hx hc hol
      generalize old ^^^ 2 ^ ((p + i) % 8) = new at hst hx
      obtain ⟨m, hm⟩ : ∃ m, (p + i) % 8 = m := ⟨_, rfl⟩
      rw [hm] at hx
      have hm8 : m < 8 := by omega
      have ek : ((p : Int) + (i : Int)) / 8 = (k : Int) := by omega
      have ek2 : ((p : Int) + (i : Int)).tdiv 8 = (k : Int) := by rw [Int.tdiv_eq_ediv_of_nonneg (by omega)]; exact ek
      have em : ((p : Int) + (i : Int)) % 8 = (m : Int) := by omega
      have em2 : ((p : Int) + (i : Int)).tmod 8 = (m : Int) := by rw [Int.tmod_eq_emod_of_nonneg (by omega)]; exact em
      have emn : ((m : Int)).toNat = m := by omega
      have hp2 : (2 : Int) ^ m = ((2 ^ m : Nat) : Int) := by simp
      have h256 : 2 ^ m < 256 := by have := bit_lt (p + i); rw [hm] at this; exact this
      generalize 2 ^ m = t at hx hp2 h256
      have hw8 : IntKind.u8.wrap (t : Int) = (t : Int) := by rw [IntKind.wrap_u8]; omega
      have Hl := Lib.hid hst
      have Hb : Hid (Below w.heap.size w (wr.setCell ⟨w.heap.size, k, none⟩ (.int .u8 (new : Int)))) := hbel.setCell (Nat.le_refl _) _
      clear hst hbel hlive hy hgd hlen Hset hbit hk2
      go_wp2_with fail
      go_roundw
      case rel => exact ⟨i + 1, by omega, by go_num, Hl.out, Hb.out⟩
      case measure => simp [intOf]; omega
end Go.Proofs.YtljahpngngmecaaDoor.crc
