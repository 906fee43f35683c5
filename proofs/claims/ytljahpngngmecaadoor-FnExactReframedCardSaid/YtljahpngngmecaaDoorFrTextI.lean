/- impl.FrameText. -/
import Derived.Test.YtljahpngngmecaaDoorFrTextS
import Derived.Test.YtljahpngngmecaaDoorFrOkI
import Derived.Test.YtljahpngngmecaaDoorSealI
import Derived.Test.YtljahpngngmecaaDoorFixI
import Derived.Deep.RegionHeld3
namespace Go.Proofs.YtljahpngngmecaaDoor.frame
open Go.ChangeShapes Go.WideShapes Go.ChangeAt Go.RowKit
open crc fixed
set_option linter.unusedVariables false

theorem fix_one {v : Int} (h1 : 1 ≤ v) (h2 : v ≤ 9) : fixF v 1 = ⟨#[UInt8.ofNat v.toNat]⟩ := by
  obtain ⟨n, rfl⟩ := Int.eq_ofNat_of_zero_le (show 0 ≤ v by omega)
  have e := fix_yes (n := n) (w := 1) (by decide) (by decide) (by show n < 256; omega)
  have e2 : fixL n 1 = [UInt8.ofNat n] := by
    show [UInt8.ofNat (n / 2 ^ (8 * 0) % 256)] = _
    have : n / 2 ^ (8 * 0) % 256 = n := by simp; omega
    rw [this]
  rw [e2] at e
  exact e
theorem impl_text_no (v : Int) (p : ByteArray) (w : World) (hp : p.size ≤ maxLen) (h : okF v p = false) :
    Calls Tryd.prog 10 #[frV v p] w fun e w' => e = .returned (.string ⟨#[]⟩) ∧ Below w.heap.size w w' := by
  have HO := Lib.hid (fun w => impl_ok v p w hp)
  rw [h] at HO
  have H0 := Lib.hid (Held.box w v p)
  unfold frV at HO ⊢
  go_enter Tryd.func10, Tryd.ntmps10
  go_wp2_with fail
  refine (HO.out _).mono ?_
  rintro e w1 ⟨rfl, hb1⟩
  clear HO
  have Hb1 := Lib.hid (H0.out.below hb1).1
  clear H0 hb1
  go_wp2_with fail
  go_ret
  exact ⟨rfl, Hb1.out⟩

set_option maxRecDepth 100000 in
set_option maxHeartbeats 2000000 in
theorem impl_text_yes (v : Int) (p : ByteArray) (w : World) (hp : p.size ≤ maxLen) (h : okF v p = true) :
    Calls Tryd.prog 10 #[frV v p] w fun e w' => e = .returned (.string (frameF v p)) ∧ Below w.heap.size w w' := by
  have HO := Lib.hid (fun w => impl_ok v p w hp)
  have hk := (ok_iff v p).1 h
  have HX := Lib.hid (fun w => fixed.impl_any (p.size : Int) 4 w (by omega))
  have HV := Lib.hid (fun w => fixed.impl_any v 1 w (by omega))
  have hos := openB_size (v := v) hk.2.2
  have HS := Lib.hid (fun w => impl_seal (openB v p) w (by unfold maxLen; omega))
  rw [seal_yes (by omega), ← frame_yes h] at HS
  have h4 : (fixF (p.size : Int) 4).size = 4 := by
    rw [fix_len hk.2.2]
    show (fixL _ 4).toArray.size = 4
    rw [List.size_toArray, fixL_length]
  have h1 : (fixF v 1).size = 1 := by rw [fix_one hk.1 hk.2.1]; rfl
  generalize hF : frameF v p = R at HS
  unfold openB magic at HS
  rw [← fix_one hk.1 hk.2.1] at HS
  rw [h] at HO
  generalize fixF (p.size : Int) 4 = G at HX HS h4
  generalize fixF v 1 = V at HV HS h1
  have hz0 : ¬ 9223372036854775807 < 5 + V.size := by omega
  have hz1 : ¬ 9223372036854775807 < 5 + V.size + G.size := by omega
  have hz2 : ¬ 9223372036854775807 < 5 + V.size + G.size + p.size := by omega
  have H0 := Lib.hid (Held.box w v p)
  clear hF hos h hk
  unfold frV at HO ⊢
  go_enter Tryd.func10, Tryd.ntmps10
  go_wp2_with fail
  refine (HO.out _).mono ?_
  rintro e w1 ⟨rfl, hb1⟩
  clear HO
  have hH0 : Held w v p w1.drew := (H0.out.below hb1).drew
  clear H0 hb1
  go_wp2_with fail
  go_region_held3 (fun w' => Below w.heap.size w w' ∧ w'.cell? ⟨w.heap.size, 0, none⟩ = some (.int .i64 v) ∧ w'.cell? ⟨w.heap.size, 1, none⟩ = some (.string p)) (first | exact hH0 | exact Held.below (by assumption) (by assumption)) (first | (go_at_call 26; first | ((with_reducible refine (HX.out _).mono ?_); rintro e wa ⟨rfl, hba⟩) | ((with_reducible refine (HV.out _).mono ?_); rintro e wb ⟨rfl, hbb⟩)))
  all_goals
    have hH1 : Held w v p wa := by assumption
    have Hb1 := Lib.hid hH1.1
    obtain ⟨hH1a, c0, c1⟩ := hH1
    clear HX HV
    go_wp2_with fail
    refine (HS.out _).mono ?_
    rintro e w9 ⟨rfl, hb9⟩
    have Hb9 := Lib.hid (Hb1.out.trans (hb9.mono Hb1.out.size))
    clear HS hb9 Hb1
    go_wp2_with fail
    go_ret
    exact ⟨rfl, Hb9.out⟩
theorem impl_text (v : Int) (p : ByteArray) (w : World) (hp : p.size ≤ maxLen) :
    Calls Tryd.prog 10 #[frV v p] w fun e w' => e = .returned (.string (frameF v p)) ∧ Below w.heap.size w w' := by
  cases h : okF v p with
  | false => rw [frame_no h]; exact impl_text_no v p w hp h
  | true => exact impl_text_yes v p w hp h
end Go.Proofs.YtljahpngngmecaaDoor.frame
