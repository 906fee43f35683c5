/- Merged: Figure DecimalS DecimalI. -/
import Derived.Test.YtangdmjdjiddcaaDoorRows
import Derived.Test.YtangdmjdjiddcaaDoorGA0
import Derived.ProofKit
import Derived.OpenShut
import Derived.Lib.ItoaNum
import Derived.Test.YtangdmjdjiddcaaDoorShelf
import Derived.Stop.LaidErr
namespace Go.Proofs.YtangdmjdjiddcaaDoor.hex
open Go.ChangeShapes Go.WideShapes Go.ChangeAt Go.RowKit
set_option linter.unusedVariables false

/-- The byte of a hexadecimal digit. -/
def fig (n : Nat) : UInt8 := if n < 10 then UInt8.ofNat (48 + n) else UInt8.ofNat (87 + n)

theorem fig_lo (x : Int) (h0 : 0 ≤ x) (h : x < 10) : ((fig x.toNat).toNat : Int) = 48 + x := by
  unfold fig; rw [if_pos (by omega)]; simp; omega
theorem fig_hi (x : Int) (h0 : 10 ≤ x) (h : x < 16) : ((fig x.toNat).toNat : Int) = 97 + x - 10 := by
  unfold fig; rw [if_neg (by omega)]; simp; omega

theorem figure_any (x : Int) (w : World) (h0 : 0 ≤ x) (h1 : x < 16) :
    Calls Tryd.prog 61 #[.int .i64 x] w fun e w' => e = .returned (.int .u8 (fig x.toNat).toNat) ∧ w = w' := by
  by_cases h : x < 10
  · go_enter Tryd.func61, Tryd.ntmps61
    go_wp2
    go_ret
    exact ⟨ret_int (fig_lo x h0 h).symm, rfl⟩
  · have h' : 10 ≤ x := by omega
    go_enter Tryd.func61, Tryd.ntmps61
    go_wp2
    go_ret
    exact ⟨ret_int (by rw [fig_hi x h' h1]; try (simp; done)), rfl⟩

end Go.Proofs.YtangdmjdjiddcaaDoor.hex
namespace Go.Proofs.YtangdmjdjiddcaaDoor.decimal
open Go.ChangeShapes Go.WideShapes Go.ChangeAt Go.RowKit
set_option linter.unusedVariables false

/-- The digits of u, none for 0. -/
def dz (u : Nat) : List UInt8 := if u = 0 then [] else Lib.decDigits u
theorem dz_zero : dz 0 = [] := rfl
theorem dz_pos {u : Nat} (h : 0 < u) : dz u = Lib.decDigits u := by unfold dz; rw [if_neg (by omega)]
theorem dz_step {u : Nat} (h : 0 < u) : dz u = dz (u / 10) ++ [UInt8.ofNat (48 + u % 10)] := by
  rw [dz_pos h, Lib.decDigits]
  by_cases h1 : u < 10
  · rw [dif_pos h1]
    have : u / 10 = 0 := by omega
    rw [this, dz_zero, Nat.mod_eq_of_lt h1]; rfl
  · rw [dif_neg h1, dz_pos (by omega : 0 < u / 10)]
theorem fig_dec (u : Nat) (h : u < 10) : hex.fig u = UInt8.ofNat (48 + u) := by unfold hex.fig; rw [if_pos h]

theorem conv_one (w : World) (x : UInt8) :
    (convert 92 9 (.slice (some ⟨w.heap.size, 0, none⟩) 1 1)).run Tryd.prog (w.alloc (.cells #[.int .u8 x.toNat] 5)) = .ok (.string ⟨#[x]⟩) (w.alloc (.cells #[.int .u8 x.toNat] 5)) := by
  have h := run_convert_own (P := Tryd.prog) (w.alloc (.cells #[.int .u8 x.toNat] 5)) 92 5 9 Tryd.underlying92 Tryd.underlying5 Tryd.underlying9 w.heap.size (.slice (some ⟨w.heap.size, 0, none⟩) 1 1) [x] (World.ownsRow_lit (size := 1) (base := w.heap.size) (e := 5) w #[.int .u8 x.toNat] 1 (Nat.le_refl _) (by simp [maxLen]) rfl)
  exact h

theorem spec_zero (w : World) :
    Calls Tryd.prog 33 #[.int .i64 0] w fun e w' => e = .returned (.string ⟨(Lib.itoa 0).toArray⟩) ∧ Below w.heap.size w w' := by
  have Hi : Hid (Lib.itoa 0 = [48]) := by unfold Hid; rw [Lib.itoa, if_neg (by omega), Lib.decDigits]; rfl
  go_enter Tryd.func33, Tryd.ntmps33
  go_wp2_with fail
  go_ret
  exact ⟨by rw [Hi.out]; rfl, Below.refl _ _⟩

theorem spec_pos (u0 : Nat) (w : World) (h0 : 0 < u0) (h1 : (u0 : Int) ≤ 9223372036854775807) :
    Calls Tryd.prog 33 #[.int .i64 u0] w fun e w' => e = .returned (.string ⟨(Lib.itoa u0).toArray⟩) ∧ Below w.heap.size w w' := by
  have hi : Lib.itoa (u0 : Int) = dz u0 := by rw [dz_pos h0, Lib.itoa, if_neg (by omega)]; simp
  have Hi := Lib.hid hi
  clear hi
  have hz : ((u0 : Int) == 0) = false := beq_eq_false_iff_ne.2 (by omega)
  go_enter Tryd.func33, Tryd.ntmps33
  go_wp2_with fail
  go_loopw [0, 4] (fun a s wr => ∃ (u : Nat) (acc : List UInt8), u ≤ u0 ∧ a = .int .i64 u ∧ s = .string ⟨acc.toArray⟩ ∧ acc.length ≤ u0 - u ∧ Hid (dz u ++ acc = dz u0) ∧ Below w.heap.size w wr) (fun a _ _ => (intOf a).toNat)
  case atStart => exact ⟨u0, [], Nat.le_refl _, rfl, rfl, by simp, by unfold Hid; simp, Below.refl _ _⟩
  case round =>
    obtain ⟨u, acc, hu, rfl, rfl, hlen, hd, hbel⟩ := hrel
    by_cases hp : 0 < u
    · have e1 : ((u : Int) != 0) = true := by rw [bne_iff_ne]; omega
      have hs : dz (u / 10) ++ (UInt8.ofNat (48 + u % 10) :: acc) = dz u0 := by rw [← hd.out, dz_step hp]; simp
      have Hs := Lib.hid hs
      have hf : hex.fig ((u : Int) % 10).toNat = hex.fig (u % 10) := by congr 1
      have Hf : Hid (hex.fig (u % 10) = UInt8.ofNat (48 + u % 10)) := fig_dec _ (by omega)
      have Hc := Lib.hid (fun W => conv_one W (hex.fig (u % 10)))
      clear hs hd
      go_wp2_with fail
      refine (hex.figure_any _ _ (by omega) (by omega)).mono ?_
      rintro e w1 ⟨rfl, rfl⟩
      have hc := Hc.out wr
      have hbel2 := hbel.alloc hbel.size (.cells #[.int .u8 (hex.fig (u % 10)).toNat] 5)
      rw [hf]
      clear Hc hf
      go_wp2_with fail
      go_roundw
      case rel => exact ⟨u / 10, UInt8.ofNat (48 + u % 10) :: acc, by omega, by go_num, by rw [← Hf.out]; exact congrArg Value.string (bytes_cons _ _), by simp; omega, Hs, hbel2⟩
      case measure => simp [intOf]; omega
    · obtain rfl : u = 0 := by omega
      have ha : acc = dz u0 := by rw [← hd.out, dz_zero]; rfl
      subst ha
      go_wp2_with fail
      go_ret
      exact ⟨by rw [Hi.out]; rfl, hbel⟩

theorem spec_neg (u0 : Nat) (w : World) (h0 : 0 < u0) (h1 : (u0 : Int) ≤ 9223372036854775808) :
    Calls Tryd.prog 33 #[.int .i64 (-(u0 : Int))] w fun e w' => e = .returned (.string ⟨(Lib.itoa (-(u0 : Int))).toArray⟩) ∧ Below w.heap.size w w' := by
  have hi : Lib.itoa (-(u0 : Int)) = 45 :: dz u0 := by rw [dz_pos h0, Lib.itoa, if_pos (by omega)]; simp
  have Hi := Lib.hid hi
  clear hi
  have hz : (-(u0 : Int) == 0) = false := beq_eq_false_iff_ne.2 (by omega)
  have hneg : decide (-(u0 : Int) < 0) = true := by simp; omega
  go_enter Tryd.func33, Tryd.ntmps33
  go_wp2_with fail
  go_loopw [0, 4] (fun a s wr => ∃ (u : Nat) (acc : List UInt8), u ≤ u0 ∧ a = .int .i64 (-(u : Int)) ∧ s = .string ⟨acc.toArray⟩ ∧ (u = 0 ∨ 2 * acc.length + u ≤ u0 + 2) ∧ 2 * acc.length ≤ u0 + 4 ∧ Hid (dz u ++ acc = dz u0) ∧ Below w.heap.size w wr) (fun a _ _ => (-(intOf a)).toNat)
  case atStart => exact ⟨u0, [], Nat.le_refl _, rfl, rfl, by simp, by simp, by unfold Hid; simp, Below.refl _ _⟩
  case round =>
    obtain ⟨u, acc, hu, rfl, rfl, hlen, hlen2, hd, hbel⟩ := hrel
    by_cases hp : 0 < u
    · have hlen3 : 2 * acc.length + u ≤ u0 + 2 := by omega
      clear hlen
      have e1 : (-(u : Int) != 0) = true := by rw [bne_iff_ne]; omega
      have e2 : (-(u : Int)).tmod 10 = -((u : Int) % 10) := by rw [Int.neg_tmod, Int.tmod_eq_emod_of_nonneg (by omega)]
      have e3 : (-(u : Int)).tdiv 10 = -((u : Int) / 10) := by rw [Int.neg_tdiv, Int.tdiv_eq_ediv_of_nonneg (by omega)]
      have hs : dz (u / 10) ++ (UInt8.ofNat (48 + u % 10) :: acc) = dz u0 := by rw [← hd.out, dz_step hp]; simp
      have Hs := Lib.hid hs
      have hf : hex.fig ((u : Int) % 10).toNat = hex.fig (u % 10) := by congr 1
      have Hf : Hid (hex.fig (u % 10) = UInt8.ofNat (48 + u % 10)) := fig_dec _ (by omega)
      have Hc := Lib.hid (fun W => conv_one W (hex.fig (u % 10)))
      have hq : (-((u : Int) / 10)) = -((u / 10 : Nat) : Int) := by omega
      have Hq := Lib.hid hq
      clear hs hd hq
      by_cases hm : u % 10 = 0
      · have hm0 : (u : Int) % 10 = 0 := by omega
        have Hm := Lib.hid hm
        have hf0 : hex.fig (0 : Int).toNat = hex.fig (u % 10) := by rw [hm]; rfl
        clear hm hf
        go_wp2_with fail
        refine (hex.figure_any _ _ (by omega) (by omega)).mono ?_
        rintro e w1 ⟨rfl, rfl⟩
        have hc := Hc.out wr
        have hbel2 := hbel.alloc hbel.size (.cells #[.int .u8 (hex.fig (u % 10)).toNat] 5)
        rw [hf0]
        clear Hc hf0 hm0
        go_wp2_with fail
        go_roundw
        case rel => exact ⟨u / 10, UInt8.ofNat (48 + u % 10) :: acc, by omega, by rw [Hq.out], by rw [← Hf.out]; exact congrArg Value.string (bytes_cons _ _), by simp; omega, by simp; omega, Hs, hbel2⟩
        case measure => simp [intOf]; omega
      · have hlt : decide (-((u : Int) % 10) < 0) = true := by simp; omega
        have hlt2 : 0 < (u : Int) % 10 := by omega
        go_wp2_with fail
        refine (hex.figure_any _ _ (by omega) (by omega)).mono ?_
        rintro e w1 ⟨rfl, rfl⟩
        have hc := Hc.out wr
        have hbel2 := hbel.alloc hbel.size (.cells #[.int .u8 (hex.fig (u % 10)).toNat] 5)
        rw [hf]
        clear Hc hf
        go_wp2_with fail
        go_roundw
        case rel => exact ⟨u / 10, UInt8.ofNat (48 + u % 10) :: acc, by omega, by rw [Hq.out], by rw [← Hf.out]; exact congrArg Value.string (bytes_cons _ _), by simp; omega, by simp; omega, Hs, hbel2⟩
        case measure => simp [intOf]; omega
    · obtain rfl : u = 0 := by omega
      have ha : acc = dz u0 := by rw [← hd.out, dz_zero]; rfl
      subst ha
      go_wp2_with fail
      go_ret
      exact ⟨by rw [Hi.out]; exact ret_str (bytes_cons _ _), hbel⟩

/-- spec.Decimal at every int. -/
theorem spec_any (n : Int) (w : World) (h0 : -9223372036854775808 ≤ n) (h1 : n ≤ 9223372036854775807) :
    Calls Tryd.prog 33 #[.int .i64 n] w fun e w' => e = .returned (.string ⟨(Lib.itoa n).toArray⟩) ∧ Below w.heap.size w w' := by
  by_cases hz : n = 0
  · subst hz; exact spec_zero w
  · by_cases hp : 0 < n
    · obtain ⟨u, rfl⟩ := Int.eq_ofNat_of_zero_le (show 0 ≤ n by omega)
      exact spec_pos u w (by omega) h1
    · obtain ⟨u, hu⟩ := Int.eq_ofNat_of_zero_le (show 0 ≤ -n by omega)
      obtain rfl : n = -(u : Int) := by omega
      exact spec_neg u w (by omega) (by omega)
end Go.Proofs.YtangdmjdjiddcaaDoor.decimal
namespace Go.Proofs.YtangdmjdjiddcaaDoor.decimal
open Go.ChangeShapes Go.WideShapes Go.ChangeAt Go.RowKit
set_option linter.unusedVariables false

/-- The table of powers of ten holds what its text lays. -/
def Pow (w : World) : Prop := Lib.TabIs Tryd.prog w "internal/strconv.uint64pow10" .u64 Lib.pow10Tab
theorem Pow.below {w w' : World} (h : Pow w) (hb : Below w.heap.size w w') : Pow w' := var_below h hb

theorem grow_below (w : World) (k : Nat) (os : Array Obj) : Below w.heap.size w (Go.Sort.grow (w.drewN k) os) :=
  ⟨rfl, rfl, rfl, by simp [Go.Sort.grow], fun i hi => by
    show (w.heap ++ os)[i]? = w.heap[i]?
    rw [Array.getElem?_append_left hi]⟩

theorem impl_any (n : Int) (w : World) (h0 : -9223372036854775808 ≤ n) (h1 : n ≤ 9223372036854775807) (ht : Pow w) :
    Calls Tryd.prog 34 #[.int .i64 n] w fun e w' => e = .returned (.string ⟨(Lib.itoa n).toArray⟩) ∧ Below w.heap.size w w' := by
  have HI := Lib.hid (Tryd.strconv_Itoa n h0 h1 w ht)
  clear ht
  go_enter Tryd.func34, Tryd.ntmps34
  go_wp2_with fail
  refine HI.out.mono ?_
  rintro e w' ⟨rfl, k, os, rfl⟩
  have hb := grow_below w k os
  generalize Go.Sort.grow (w.drewN k) os = w2 at hb
  go_wp2_with fail
  go_ret
  exact ⟨rfl, hb⟩
end Go.Proofs.YtangdmjdjiddcaaDoor.decimal
