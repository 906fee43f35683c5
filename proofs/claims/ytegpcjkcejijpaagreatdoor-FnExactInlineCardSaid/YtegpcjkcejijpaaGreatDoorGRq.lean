/- Merged: ReadQS ReadQfS. -/
import Derived.Test.YtegpcjkcejijpaaGreatDoorGLine
import Derived.Test.YtegpcjkcejijpaaGreatDoorGArith
import Derived.Test.YtegpcjkcejijpaaGreatDoorGRn
import Derived.Lib.AppendStr
namespace Go.Proofs.YtegpcjkcejijpaaGreatDoor.readq
open Go.ChangeShapes Go.WideShapes Go.ChangeAt Go.RowKit
set_option linter.unusedVariables false

def valI (x : Int) : Int := if 48 ≤ x ∧ x ≤ 57 then x - 48 else if 97 ≤ x ∧ x ≤ 102 then x - 87 else -1
theorem hexv_lo {x : Int} (h : ¬ (65 ≤ x ∧ x ≤ 70)) : hexv x = valI x := by
  unfold hexv valI
  by_cases a : 48 ≤ x ∧ x ≤ 57
  · rw [if_pos a, if_pos a]
  · rw [if_neg a, if_neg a]
    by_cases b : 97 ≤ x ∧ x ≤ 102
    · rw [if_pos b, if_pos b]
    · rw [if_neg b, if_neg b, if_neg h]
theorem hexv_up {x : Int} (h : 65 ≤ x ∧ x ≤ 70) : hexv x = valI (x + 32) := by
  unfold hexv valI
  rw [if_neg (by omega), if_neg (by omega), if_pos h, if_neg (by omega), if_pos (by omega)]
  omega
theorem value_any (x : Int) (w : World) (h0 : 0 ≤ x) (h1 : x < 256) :
    Calls Tryz.prog 182 #[.int .u8 x] w fun e w' => e = .returned (.int .i64 (valI x)) ∧ w = w' := by
  by_cases a1 : 48 ≤ x
  · by_cases a2 : x ≤ 57
    · have hv : valI x = x - 48 := by unfold valI; rw [if_pos ⟨a1, a2⟩]
      go_enter Tryz.func182, Tryz.ntmps182
      go_wp2
      go_ret
      exact ⟨ret_int hv.symm, rfl⟩
    · by_cases a3 : 97 ≤ x
      · by_cases a4 : x ≤ 102
        · have hv : valI x = x - 97 + 10 := by unfold valI; rw [if_neg (by omega), if_pos ⟨a3, a4⟩]; omega
          go_enter Tryz.func182, Tryz.ntmps182
          go_wp2
          go_ret
          exact ⟨rfl, rfl⟩
        · have hv : valI x = -1 := by unfold valI; rw [if_neg (by omega), if_neg (by omega)]
          go_enter Tryz.func182, Tryz.ntmps182
          go_wp2
          go_ret
          exact ⟨rfl, rfl⟩
      · have hv : valI x = -1 := by unfold valI; rw [if_neg (by omega), if_neg (by omega)]
        go_enter Tryz.func182, Tryz.ntmps182
        go_wp2
        go_ret
        exact ⟨rfl, rfl⟩
  · have hv : valI x = -1 := by unfold valI; rw [if_neg (by omega), if_neg (by omega)]
    go_enter Tryz.func182, Tryz.ntmps182
    go_wp2
    go_ret
    exact ⟨rfl, rfl⟩

theorem acc_le {s : ByteArray} {p k : Nat} (hk : k ≤ 4) (h : digs s p k) : 0 ≤ acc s p k ∧ acc s p k ≤ 65535 := by
  have h1 := acc_bd s p k h
  have h2 : (16 : Int) ^ k ≤ 16 ^ 4 := by
    match k, hk with
    | 0, _ => decide
    | 1, _ => decide
    | 2, _ => decide
    | 3, _ => decide
    | 4, _ => decide
  have e : (16 : Int) ^ 4 = 65536 := by decide
  omega
theorem four_bad {s : ByteArray} {p k : Nat} (hk : k < 4) (h : hexv (at_ s (p + k)) < 0) : four s p = -1 :=
  four_no (fun ⟨_, hd⟩ => by have := hd k hk; omega)
theorem spec_four (s : ByteArray) (p : Nat) (w : World) (hs : s.size ≤ 1048576) (hp : p ≤ 2000000) :
    Calls Tryz.prog 156 #[.string s, .int .i64 p] w fun e w' => e = .returned (.int .i64 (four s p)) ∧ w = w' := by
  by_cases h1 : s.size < p + 4
  · have Hf := Lib.hid (four_no (s := s) (p := p) (by omega))
    go_enter Tryz.func156, Tryz.ntmps156
    go_wp2_with fail
    go_ret
    exact ⟨by rw [Hf.out]; rfl, rfl⟩
  have Hyes := Lib.hid (fun h => (four_yes (s := s) (p := p) (by omega) h).1)
  go_enter Tryz.func156, Tryz.ntmps156
  go_wp2_with fail
  go_loop [5, 6] (fun a i => ∃ k : Nat, k ≤ 4 ∧ i = .int .i64 ((p + k : Nat) : Int) ∧ a = .int .i64 (acc s p k) ∧ Hid (digs s p k)) (fun _ i => p + 4 - (intOf i).toNat)
  case atStart => exact ⟨0, by omega, by go_num, rfl, fun j hj => by omega⟩
  case round =>
    obtain ⟨k, hk, rfl, rfl, hd⟩ := hrel
    have hb := acc_le hk hd.out
    by_cases hlt : k < 4
    · have eat := at_eq s (p + k) (by omega)
      have hbd := at_bd s (p + k)
      by_cases hv : hexv (at_ s (p + k)) < 0
      · have Hf := Lib.hid (four_bad hlt hv)
        by_cases hu : 65 ≤ at_ s (p + k) ∧ at_ s (p + k) ≤ 70
        · rw [hexv_up hu] at hv
          have HV := Lib.hid (fun w => value_any (at_ s (p + k) + 32) w (by omega) (by omega))
          obtain ⟨hu1, hu2⟩ := hu
          generalize valI (at_ s (p + k) + 32) = d at hv HV
          clear hd hb
          generalize acc s p k = n
          go_wp2_with fail
          refine (HV.out _).mono ?_
          rintro e w1 ⟨rfl, rfl⟩
          go_wp2_with fail
          go_ret
          exact ⟨by rw [Hf.out]; rfl, rfl⟩
        · rw [hexv_lo hu] at hv
          have HV := Lib.hid (fun w => value_any (at_ s (p + k)) w (by omega) (by omega))
          generalize valI (at_ s (p + k)) = d at hv HV
          clear hd hb
          generalize acc s p k = n
          by_cases hu1 : at_ s (p + k) < 65
          · go_wp2_with fail
            refine (HV.out _).mono ?_
            rintro e w1 ⟨rfl, rfl⟩
            go_wp2_with fail
            go_ret
            exact ⟨by rw [Hf.out]; rfl, rfl⟩
          · have hu2 : 70 < at_ s (p + k) := by omega
            go_wp2_with fail
            refine (HV.out _).mono ?_
            rintro e w1 ⟨rfl, rfl⟩
            go_wp2_with fail
            go_ret
            exact ⟨by rw [Hf.out]; rfl, rfl⟩
      · have Hd : Hid (digs s p (k + 1)) := fun j hj => by
          by_cases e : j = k
          · subst e; omega
          · exact hd.out j (by omega)
        have hl := hexv_lt (at_ s (p + k))
        have Ha : Hid (acc s p (k + 1) = 16 * acc s p k + hexv (at_ s (p + k))) := rfl
        by_cases hu : 65 ≤ at_ s (p + k) ∧ at_ s (p + k) ≤ 70
        · rw [hexv_up hu] at hv hl Ha
          have HV := Lib.hid (fun w => value_any (at_ s (p + k) + 32) w (by omega) (by omega))
          obtain ⟨hu1, hu2⟩ := hu
          generalize valI (at_ s (p + k) + 32) = d at hv hl HV Ha
          clear hd
          generalize acc s p k = n at hb Ha
          go_wp2_with fail
          refine (HV.out _).mono ?_
          rintro e w1 ⟨rfl, rfl⟩
          go_wp2_with fail
          go_round
          case rel => exact ⟨k + 1, by omega, by go_num, by rw [Ha.out], Hd⟩
          case measure => simp [intOf]; omega
        · rw [hexv_lo hu] at hv hl Ha
          have HV := Lib.hid (fun w => value_any (at_ s (p + k)) w (by omega) (by omega))
          generalize valI (at_ s (p + k)) = d at hv hl HV Ha
          clear hd
          generalize acc s p k = n at hb Ha
          by_cases hu1 : at_ s (p + k) < 65
          · go_wp2_with fail
            refine (HV.out _).mono ?_
            rintro e w1 ⟨rfl, rfl⟩
            go_wp2_with fail
            go_round
            case rel => exact ⟨k + 1, by omega, by go_num, by rw [Ha.out], Hd⟩
            case measure => simp [intOf]; omega
          · have hu2 : 70 < at_ s (p + k) := by omega
            go_wp2_with fail
            refine (HV.out _).mono ?_
            rintro e w1 ⟨rfl, rfl⟩
            go_wp2_with fail
            go_round
            case rel => exact ⟨k + 1, by omega, by go_num, by rw [Ha.out], Hd⟩
            case measure => simp [intOf]; omega
    · obtain rfl : k = 4 := by omega
      have Hr := Lib.hid (Hyes.out hd.out)
      clear hd
      generalize acc s p 4 = n at hb Hr
      go_wp2_with fail
      go_ret
      exact ⟨by rw [Hr.out]; rfl, rfl⟩
theorem spec_fourI (s : ByteArray) (a : Int) (p : Nat) (ha : a = (p : Int)) (w : World) (hs : s.size ≤ 1048576) (hp : p ≤ 2000000) :
    Calls Tryz.prog 156 #[.string s, .int .i64 a] w fun e w' => e = .returned (.int .i64 (four s p)) ∧ w = w' := by
  subst ha
  exact spec_four s p w hs hp

theorem spec_esc_out (s : ByteArray) (p : Nat) (w : World) (hs : s.size ≤ 1048576) (hp : p ≤ 2000000) (h : s.size ≤ p) :
    Calls Tryz.prog 118 #[.string s, .int .i64 p] w fun e w' => e = .returned (.tuple #[.int .i64 (escF s p).1, .int .i64 (escF s p).2]) ∧ w = w' := by
  have e : escF s p = (0, -1) := by unfold escF; rw [if_neg (by omega)]
  rw [e]
  go_enter Tryz.func118, Tryz.ntmps118
  go_wp2_with fail
  go_ret2
  exact ⟨rfl, rfl⟩
theorem escF_plain {s : ByteArray} {p : Nat} {n : Int} (hp : p < s.size) (h : plain (at_ s p) = some n) : escF s p = (n, (p : Int) + 1) := by
  unfold escF
  rw [if_pos hp, h]
  rfl
theorem escF_u {s : ByteArray} {p : Nat} (hp : p < s.size) (h : at_ s p = 117) : escF s p = uF s p := by
  unfold escF
  rw [if_pos hp, h]
  rfl
theorem escF_none {s : ByteArray} {p : Nat} (h : plain (at_ s p) = none) (h2 : at_ s p ≠ 117) : escF s p = (0, -1) := by
  unfold escF
  by_cases hp : p < s.size
  · rw [if_pos hp, h]
    exact if_neg h2
  · rw [if_neg hp]
set_option maxHeartbeats 4000000 in
set_option maxRecDepth 100000 in
theorem spec_esc_plain (s : ByteArray) (p : Nat) (w : World) (hs : s.size ≤ 1048576) (hp : p < s.size) (hu : at_ s p ≠ 117) :
    Calls Tryz.prog 118 #[.string s, .int .i64 p] w fun e w' => e = .returned (.tuple #[.int .i64 (escF s p).1, .int .i64 (escF s p).2]) ∧ w = w' := by
  have eat := at_eq s p hp
  have hbd := at_bd s p
  by_cases h34 : at_ s p = 34
  · rw [escF_plain (n := 34) hp (by rw [h34]; rfl)]
    rw [h34] at eat
    clear hu hbd
    go_enter Tryz.func118, Tryz.ntmps118
    go_wp2_with fail
    go_ret2
    exact ⟨rfl, rfl⟩
  by_cases h92 : at_ s p = 92
  · rw [escF_plain (n := 92) hp (by rw [h92]; rfl)]
    rw [h92] at eat
    clear hu hbd
    go_enter Tryz.func118, Tryz.ntmps118
    go_wp2_with fail
    go_ret2
    exact ⟨rfl, rfl⟩
  by_cases h47 : at_ s p = 47
  · rw [escF_plain (n := 47) hp (by rw [h47]; rfl)]
    rw [h47] at eat
    clear hu hbd
    go_enter Tryz.func118, Tryz.ntmps118
    go_wp2_with fail
    go_ret2
    exact ⟨rfl, rfl⟩
  by_cases h98 : at_ s p = 98
  · rw [escF_plain (n := 8) hp (by rw [h98]; rfl)]
    rw [h98] at eat
    clear hu hbd
    go_enter Tryz.func118, Tryz.ntmps118
    go_wp2_with fail
    go_ret2
    exact ⟨rfl, rfl⟩
  by_cases h102 : at_ s p = 102
  · rw [escF_plain (n := 12) hp (by rw [h102]; rfl)]
    rw [h102] at eat
    clear hu hbd
    go_enter Tryz.func118, Tryz.ntmps118
    go_wp2_with fail
    go_ret2
    exact ⟨rfl, rfl⟩
  by_cases h110 : at_ s p = 110
  · rw [escF_plain (n := 10) hp (by rw [h110]; rfl)]
    rw [h110] at eat
    clear hu hbd
    go_enter Tryz.func118, Tryz.ntmps118
    go_wp2_with fail
    go_ret2
    exact ⟨rfl, rfl⟩
  by_cases h114 : at_ s p = 114
  · rw [escF_plain (n := 13) hp (by rw [h114]; rfl)]
    rw [h114] at eat
    clear hu hbd
    go_enter Tryz.func118, Tryz.ntmps118
    go_wp2_with fail
    go_ret2
    exact ⟨rfl, rfl⟩
  by_cases h116 : at_ s p = 116
  · rw [escF_plain (n := 9) hp (by rw [h116]; rfl)]
    rw [h116] at eat
    clear hu hbd
    go_enter Tryz.func118, Tryz.ntmps118
    go_wp2_with fail
    go_ret2
    exact ⟨rfl, rfl⟩
  have hn : plain (at_ s p) = none := by unfold plain; rw [if_neg h34, if_neg h92, if_neg h47, if_neg h98, if_neg h102, if_neg h110, if_neg h114, if_neg h116]
  rw [escF_none hn hu]
  clear hn
  go_enter Tryz.func118, Tryz.ntmps118
  go_wp2_with fail
  go_ret2
  exact ⟨rfl, rfl⟩
set_option maxHeartbeats 4000000 in
set_option maxRecDepth 100000 in
theorem spec_u_bad (s : ByteArray) (p : Nat) (w : World) (hs : s.size ≤ 1048576) (hp : p < s.size) (hu : at_ s p = 117) (h : four s (p + 1) < 0) :
    Calls Tryz.prog 118 #[.string s, .int .i64 p] w fun e w' => e = .returned (.tuple #[.int .i64 (escF s p).1, .int .i64 (escF s p).2]) ∧ w = w' := by
  have e : escF s p = (0, -1) := by
    rw [escF_u hp hu]
    unfold uF
    rw [if_pos h]
  rw [e]
  have eat := at_eq s p hp
  rw [hu] at eat
  have HN := Lib.hid (fun (x l m : Int) (w : World) (h : x < l ∨ m < x) => arith.in_no x l m w h)
  have HY := Lib.hid (fun (x l m : Int) (w : World) (h1 : l ≤ x) (h2 : x ≤ m) => arith.in_yes x l m w h1 h2)
  have HF := Lib.hid (fun a ha w => spec_fourI s a (p + 1) ha w hs (by omega))
  have hb := four_bd s (p + 1)
  generalize four s (p + 1) = n at *
  clear e hu
  go_enter Tryz.func118, Tryz.ntmps118
  go_wp2_with fail
  refine (HF.out _ (by omega) _).mono ?_
  rintro e w1 ⟨rfl, rfl⟩
  go_wp2_with fail
  go_ret2
  exact ⟨rfl, rfl⟩

set_option maxHeartbeats 4000000 in
set_option maxRecDepth 100000 in
theorem spec_u_low (s : ByteArray) (p : Nat) (w : World) (hs : s.size ≤ 1048576) (hp : p < s.size) (hu : at_ s p = 117) (h1 : 56320 ≤ four s (p + 1)) (h2 : four s (p + 1) ≤ 57343) :
    Calls Tryz.prog 118 #[.string s, .int .i64 p] w fun e w' => e = .returned (.tuple #[.int .i64 (escF s p).1, .int .i64 (escF s p).2]) ∧ w = w' := by
  have e : escF s p = (0, -1) := by
    rw [escF_u hp hu]
    unfold uF
    rw [if_neg (by omega), if_pos ⟨h1, h2⟩]
  rw [e]
  have eat := at_eq s p hp
  rw [hu] at eat
  have HN := Lib.hid (fun (x l m : Int) (w : World) (h : x < l ∨ m < x) => arith.in_no x l m w h)
  have HY := Lib.hid (fun (x l m : Int) (w : World) (h1 : l ≤ x) (h2 : x ≤ m) => arith.in_yes x l m w h1 h2)
  have HF := Lib.hid (fun a ha w => spec_fourI s a (p + 1) ha w hs (by omega))
  have hb := four_bd s (p + 1)
  generalize four s (p + 1) = n at *
  clear e hu
  go_enter Tryz.func118, Tryz.ntmps118
  go_wp2_with fail
  refine (HF.out _ (by omega) _).mono ?_
  rintro e w1 ⟨rfl, rfl⟩
  go_wp2_with fail
  refine (HY.out _ _ _ _ (by omega) (by omega)).mono ?_
  rintro e w1 ⟨rfl, rfl⟩
  go_wp2_with fail
  go_ret2
  exact ⟨rfl, rfl⟩

set_option maxHeartbeats 4000000 in
set_option maxRecDepth 100000 in
theorem spec_u_one (s : ByteArray) (p : Nat) (w : World) (hs : s.size ≤ 1048576) (hp : p < s.size) (hu : at_ s p = 117) (h0 : 0 ≤ four s (p + 1)) (h1 : ¬ (55296 ≤ four s (p + 1) ∧ four s (p + 1) ≤ 57343)) :
    Calls Tryz.prog 118 #[.string s, .int .i64 p] w fun e w' => e = .returned (.tuple #[.int .i64 (escF s p).1, .int .i64 (escF s p).2]) ∧ w = w' := by
  have e : escF s p = (four s (p + 1), (p : Int) + 5) := by
    rw [escF_u hp hu]
    unfold uF
    rw [if_neg (by omega), if_neg (by omega), if_pos (by omega)]
    rfl
  rw [e]
  have eat := at_eq s p hp
  rw [hu] at eat
  have HN := Lib.hid (fun (x l m : Int) (w : World) (h : x < l ∨ m < x) => arith.in_no x l m w h)
  have HY := Lib.hid (fun (x l m : Int) (w : World) (h1 : l ≤ x) (h2 : x ≤ m) => arith.in_yes x l m w h1 h2)
  have HF := Lib.hid (fun a ha w => spec_fourI s a (p + 1) ha w hs (by omega))
  have hb := four_bd s (p + 1)
  generalize four s (p + 1) = n at *
  clear e hu
  go_enter Tryz.func118, Tryz.ntmps118
  go_wp2_with fail
  refine (HF.out _ (by omega) _).mono ?_
  rintro e w1 ⟨rfl, rfl⟩
  go_wp2_with fail
  refine (HN.out _ _ _ _ (by omega)).mono ?_
  rintro e w1 ⟨rfl, rfl⟩
  go_wp2_with fail
  refine (HN.out _ _ _ _ (by omega)).mono ?_
  rintro e w1 ⟨rfl, rfl⟩
  go_wp2_with fail
  go_ret2
  exact ⟨rfl, rfl⟩

set_option maxHeartbeats 4000000 in
set_option maxRecDepth 100000 in
theorem spec_u_end (s : ByteArray) (p : Nat) (w : World) (hs : s.size ≤ 1048576) (hp : p < s.size) (hu : at_ s p = 117) (h0 : 55296 ≤ four s (p + 1)) (h1 : four s (p + 1) ≤ 56319) (h7 : s.size < p + 7) :
    Calls Tryz.prog 118 #[.string s, .int .i64 p] w fun e w' => e = .returned (.tuple #[.int .i64 (escF s p).1, .int .i64 (escF s p).2]) ∧ w = w' := by
  have e : escF s p = (0, -1) := by
    rw [escF_u hp hu]
    unfold uF
    rw [if_neg (by omega), if_neg (by omega), if_neg (by omega)]
    rw [if_neg (by omega)]
  rw [e]
  have eat := at_eq s p hp
  rw [hu] at eat
  have HN := Lib.hid (fun (x l m : Int) (w : World) (h : x < l ∨ m < x) => arith.in_no x l m w h)
  have HY := Lib.hid (fun (x l m : Int) (w : World) (h1 : l ≤ x) (h2 : x ≤ m) => arith.in_yes x l m w h1 h2)
  have HF := Lib.hid (fun a ha w => spec_fourI s a (p + 1) ha w hs (by omega))
  have hb := four_bd s (p + 1)
  generalize four s (p + 1) = n at *
  clear e hu
  go_enter Tryz.func118, Tryz.ntmps118
  go_wp2_with fail
  refine (HF.out _ (by omega) _).mono ?_
  rintro e w1 ⟨rfl, rfl⟩
  go_wp2_with fail
  refine (HN.out _ _ _ _ (by omega)).mono ?_
  rintro e w1 ⟨rfl, rfl⟩
  go_wp2_with fail
  refine (HY.out _ _ _ _ (by omega) (by omega)).mono ?_
  rintro e w1 ⟨rfl, rfl⟩
  go_wp2_with fail
  go_ret2
  exact ⟨rfl, rfl⟩

set_option maxHeartbeats 4000000 in
set_option maxRecDepth 100000 in
theorem spec_u_n5 (s : ByteArray) (p : Nat) (w : World) (hs : s.size ≤ 1048576) (hp : p < s.size) (hu : at_ s p = 117) (h0 : 55296 ≤ four s (p + 1)) (h1 : four s (p + 1) ≤ 56319) (h7 : p + 7 ≤ s.size) (h5 : ¬ at_ s (p + 5) = 92) :
    Calls Tryz.prog 118 #[.string s, .int .i64 p] w fun e w' => e = .returned (.tuple #[.int .i64 (escF s p).1, .int .i64 (escF s p).2]) ∧ w = w' := by
  have e : escF s p = (0, -1) := by
    rw [escF_u hp hu]
    unfold uF
    rw [if_neg (by omega), if_neg (by omega), if_neg (by omega)]
    rw [if_neg (fun h => h5 h.2.1)]
  rw [e]
  have eat := at_eq s p hp
  rw [hu] at eat
  have HN := Lib.hid (fun (x l m : Int) (w : World) (h : x < l ∨ m < x) => arith.in_no x l m w h)
  have HY := Lib.hid (fun (x l m : Int) (w : World) (h1 : l ≤ x) (h2 : x ≤ m) => arith.in_yes x l m w h1 h2)
  have HF := Lib.hid (fun a ha w => spec_fourI s a (p + 1) ha w hs (by omega))
  have hb := four_bd s (p + 1)
  generalize four s (p + 1) = n at *
  clear e hu
  have eat5 := at_eq s (p + 5) (by omega)
  have hb5 := at_bd s (p + 5)
  go_enter Tryz.func118, Tryz.ntmps118
  go_wp2_with fail
  refine (HF.out _ (by omega) _).mono ?_
  rintro e w1 ⟨rfl, rfl⟩
  go_wp2_with fail
  refine (HN.out _ _ _ _ (by omega)).mono ?_
  rintro e w1 ⟨rfl, rfl⟩
  go_wp2_with fail
  refine (HY.out _ _ _ _ (by omega) (by omega)).mono ?_
  rintro e w1 ⟨rfl, rfl⟩
  go_wp2_with fail
  go_ret2
  exact ⟨rfl, rfl⟩

set_option maxHeartbeats 4000000 in
set_option maxRecDepth 100000 in
theorem spec_u_n6 (s : ByteArray) (p : Nat) (w : World) (hs : s.size ≤ 1048576) (hp : p < s.size) (hu : at_ s p = 117) (h0 : 55296 ≤ four s (p + 1)) (h1 : four s (p + 1) ≤ 56319) (h7 : p + 7 ≤ s.size) (h5 : at_ s (p + 5) = 92) (h6 : ¬ at_ s (p + 6) = 117) :
    Calls Tryz.prog 118 #[.string s, .int .i64 p] w fun e w' => e = .returned (.tuple #[.int .i64 (escF s p).1, .int .i64 (escF s p).2]) ∧ w = w' := by
  have e : escF s p = (0, -1) := by
    rw [escF_u hp hu]
    unfold uF
    rw [if_neg (by omega), if_neg (by omega), if_neg (by omega)]
    rw [if_neg (fun h => h6 h.2.2.1)]
  rw [e]
  have eat := at_eq s p hp
  rw [hu] at eat
  have HN := Lib.hid (fun (x l m : Int) (w : World) (h : x < l ∨ m < x) => arith.in_no x l m w h)
  have HY := Lib.hid (fun (x l m : Int) (w : World) (h1 : l ≤ x) (h2 : x ≤ m) => arith.in_yes x l m w h1 h2)
  have HF := Lib.hid (fun a ha w => spec_fourI s a (p + 1) ha w hs (by omega))
  have hb := four_bd s (p + 1)
  generalize four s (p + 1) = n at *
  clear e hu
  have eat5 := at_eq s (p + 5) (by omega)
  rw [h5] at eat5
  have eat6 := at_eq s (p + 6) (by omega)
  have e6 : (at_ s (p + 6) == 117) = false := by simpa using h6
  have e7 : (at_ s (p + 6) != 117) = true := by simpa using h6
  go_enter Tryz.func118, Tryz.ntmps118
  go_wp2_with fail
  refine (HF.out _ (by omega) _).mono ?_
  rintro e w1 ⟨rfl, rfl⟩
  go_wp2_with fail
  refine (HN.out _ _ _ _ (by omega)).mono ?_
  rintro e w1 ⟨rfl, rfl⟩
  go_wp2_with fail
  refine (HY.out _ _ _ _ (by omega) (by omega)).mono ?_
  rintro e w1 ⟨rfl, rfl⟩
  go_wp2_with fail
  go_ret2
  exact ⟨rfl, rfl⟩

set_option maxHeartbeats 4000000 in
set_option maxRecDepth 100000 in
theorem spec_u_n7 (s : ByteArray) (p : Nat) (w : World) (hs : s.size ≤ 1048576) (hp : p < s.size) (hu : at_ s p = 117) (h0 : 55296 ≤ four s (p + 1)) (h1 : four s (p + 1) ≤ 56319) (h7 : p + 7 ≤ s.size) (h5 : at_ s (p + 5) = 92) (h6 : at_ s (p + 6) = 117) (h8 : four s (p + 7) < 56320 ∨ 57343 < four s (p + 7)) :
    Calls Tryz.prog 118 #[.string s, .int .i64 p] w fun e w' => e = .returned (.tuple #[.int .i64 (escF s p).1, .int .i64 (escF s p).2]) ∧ w = w' := by
  have e : escF s p = (0, -1) := by
    rw [escF_u hp hu]
    unfold uF
    rw [if_neg (by omega), if_neg (by omega), if_neg (by omega)]
    rw [if_neg (by omega)]
  rw [e]
  have eat := at_eq s p hp
  rw [hu] at eat
  have HN := Lib.hid (fun (x l m : Int) (w : World) (h : x < l ∨ m < x) => arith.in_no x l m w h)
  have HY := Lib.hid (fun (x l m : Int) (w : World) (h1 : l ≤ x) (h2 : x ≤ m) => arith.in_yes x l m w h1 h2)
  have HF := Lib.hid (fun a ha w => spec_fourI s a (p + 1) ha w hs (by omega))
  have hb := four_bd s (p + 1)
  generalize four s (p + 1) = n at *
  clear e hu
  have eat5 := at_eq s (p + 5) (by omega)
  rw [h5] at eat5
  have eat6 := at_eq s (p + 6) (by omega)
  rw [h6] at eat6
  have HF7 := Lib.hid (fun a ha w => spec_fourI s a (p + 7) ha w hs (by omega))
  have hb7 := four_bd s (p + 7)
  generalize four s (p + 7) = m at *
  go_enter Tryz.func118, Tryz.ntmps118
  go_wp2_with fail
  refine (HF.out _ (by omega) _).mono ?_
  rintro e w1 ⟨rfl, rfl⟩
  go_wp2_with fail
  refine (HN.out _ _ _ _ (by omega)).mono ?_
  rintro e w1 ⟨rfl, rfl⟩
  go_wp2_with fail
  refine (HY.out _ _ _ _ (by omega) (by omega)).mono ?_
  rintro e w1 ⟨rfl, rfl⟩
  go_wp2_with fail
  refine (HF7.out _ (by omega) _).mono ?_
  rintro e w1 ⟨rfl, rfl⟩
  go_wp2_with fail
  refine (HN.out _ _ _ _ (by omega)).mono ?_
  rintro e w1 ⟨rfl, rfl⟩
  go_wp2_with fail
  go_ret2
  exact ⟨rfl, rfl⟩

set_option maxHeartbeats 4000000 in
set_option maxRecDepth 100000 in
theorem spec_u_two (s : ByteArray) (p : Nat) (w : World) (hs : s.size ≤ 1048576) (hp : p < s.size) (hu : at_ s p = 117) (h0 : 55296 ≤ four s (p + 1)) (h1 : four s (p + 1) ≤ 56319) (h7 : p + 7 ≤ s.size) (h5 : at_ s (p + 5) = 92) (h6 : at_ s (p + 6) = 117) (h8 : 56320 ≤ four s (p + 7)) (h9 : four s (p + 7) ≤ 57343) :
    Calls Tryz.prog 118 #[.string s, .int .i64 p] w fun e w' => e = .returned (.tuple #[.int .i64 (escF s p).1, .int .i64 (escF s p).2]) ∧ w = w' := by
  have e : escF s p = (65536 + 1024 * (four s (p + 1) - 55296) + four s (p + 7) - 56320, (p : Int) + 11) := by
    rw [escF_u hp hu]
    unfold uF
    rw [if_neg (by omega), if_neg (by omega), if_neg (by omega)]
    rw [if_pos ⟨h7, h5, h6, h8, h9⟩]
    rfl
  rw [e]
  have eat := at_eq s p hp
  rw [hu] at eat
  have HN := Lib.hid (fun (x l m : Int) (w : World) (h : x < l ∨ m < x) => arith.in_no x l m w h)
  have HY := Lib.hid (fun (x l m : Int) (w : World) (h1 : l ≤ x) (h2 : x ≤ m) => arith.in_yes x l m w h1 h2)
  have HF := Lib.hid (fun a ha w => spec_fourI s a (p + 1) ha w hs (by omega))
  have hb := four_bd s (p + 1)
  generalize four s (p + 1) = n at *
  clear e hu
  have eat5 := at_eq s (p + 5) (by omega)
  rw [h5] at eat5
  have eat6 := at_eq s (p + 6) (by omega)
  rw [h6] at eat6
  have HF7 := Lib.hid (fun a ha w => spec_fourI s a (p + 7) ha w hs (by omega))
  have hb7 := four_bd s (p + 7)
  generalize four s (p + 7) = m at *
  go_enter Tryz.func118, Tryz.ntmps118
  go_wp2_with fail
  refine (HF.out _ (by omega) _).mono ?_
  rintro e w1 ⟨rfl, rfl⟩
  go_wp2_with fail
  refine (HN.out _ _ _ _ (by omega)).mono ?_
  rintro e w1 ⟨rfl, rfl⟩
  go_wp2_with fail
  refine (HY.out _ _ _ _ (by omega) (by omega)).mono ?_
  rintro e w1 ⟨rfl, rfl⟩
  go_wp2_with fail
  refine (HF7.out _ (by omega) _).mono ?_
  rintro e w1 ⟨rfl, rfl⟩
  go_wp2_with fail
  refine (HY.out _ _ _ _ (by omega) (by omega)).mono ?_
  rintro e w1 ⟨rfl, rfl⟩
  go_wp2_with fail
  go_ret2
  exact ⟨rfl, rfl⟩

theorem spec_esc (s : ByteArray) (p : Nat) (w : World) (hs : s.size ≤ 1048576) (hp : p ≤ 2000000) :
    Calls Tryz.prog 118 #[.string s, .int .i64 p] w fun e w' => e = .returned (.tuple #[.int .i64 (escF s p).1, .int .i64 (escF s p).2]) ∧ w = w' := by
  by_cases h : p < s.size
  · by_cases hu : at_ s p = 117
    · have hb := four_bd s (p + 1)
      by_cases c1 : four s (p + 1) < 0
      · exact spec_u_bad s p w hs h hu c1
      by_cases c2 : 56320 ≤ four s (p + 1) ∧ four s (p + 1) ≤ 57343
      · exact spec_u_low s p w hs h hu c2.1 c2.2
      by_cases c3 : 55296 ≤ four s (p + 1) ∧ four s (p + 1) ≤ 56319
      · by_cases c4 : p + 7 ≤ s.size
        · by_cases c5 : at_ s (p + 5) = 92
          · by_cases c6 : at_ s (p + 6) = 117
            · by_cases c7 : 56320 ≤ four s (p + 7) ∧ four s (p + 7) ≤ 57343
              · exact spec_u_two s p w hs h hu c3.1 c3.2 c4 c5 c6 c7.1 c7.2
              · exact spec_u_n7 s p w hs h hu c3.1 c3.2 c4 c5 c6 (by omega)
            · exact spec_u_n6 s p w hs h hu c3.1 c3.2 c4 c5 c6
          · exact spec_u_n5 s p w hs h hu c3.1 c3.2 c4 c5
        · exact spec_u_end s p w hs h hu c3.1 c3.2 (by omega)
      · exact spec_u_one s p w hs h hu (by omega) (by omega)
    · exact spec_esc_plain s p w hs h hu
  · exact spec_esc_out s p w hs hp (by omega)
theorem spec_escI (s : ByteArray) (a : Int) (p : Nat) (ha : a = (p : Int)) (w : World) (hs : s.size ≤ 1048576) (hp : p ≤ 2000000) :
    Calls Tryz.prog 118 #[.string s, .int .i64 a] w fun e w' => e = .returned (.tuple #[.int .i64 (escF s p).1, .int .i64 (escF s p).2]) ∧ w = w' := by
  subst ha
  exact spec_esc s p w hs hp
end Go.Proofs.YtegpcjkcejijpaaGreatDoor.readq
namespace Go.Proofs.YtegpcjkcejijpaaGreatDoor.readq
open Go.ChangeShapes Go.WideShapes Go.ChangeAt Go.RowKit
set_option linter.unusedVariables false

theorem sfun : Tryz.prog.underlying 9 = some .string := Tryz.underlying9
/-- A step and what follows it. -/
def Step (s : ByteArray) (p p0 : Nat) (l : List UInt8) (r : Int × Int) : Prop :=
  (r.2 < 0 ∧ readQ s (p0 + 1) [] = none) ∨ ∃ q : Nat, r.2 = (q : Int) ∧ p < q ∧ q ≤ s.size ∧ 0 ≤ r.1 ∧ r.1 ≤ 1114111 ∧ readQ s q (l ++ (rune.textF r.1).data.toList) = readQ s (p0 + 1) []
theorem step_of {s : ByteArray} {p p0 : Nat} {l : List UInt8} (h : at_ s p ≠ 34 ∨ s.size ≤ p) (hr : readQ s p l = readQ s (p0 + 1) []) : Step s p p0 l (stepF s p) := by
  rcases step_fine s p with hf | ⟨q, e, h4, h5, h6, h7⟩
  · exact .inl ⟨by omega, by rw [← hr]; exact read_bad h (by omega)⟩
  · rcases h with h | h
    · refine .inr ⟨q, e, h4, h5, h6, h7, ?_⟩
      rw [← hr]
      exact (read_go (by omega) h (by rw [← e]) h4).symm
    · omega

set_option maxHeartbeats 4000000 in
set_option maxRecDepth 100000 in
theorem spec_in (s : ByteArray) (p0 : Nat) (w : World) (hs : s.size ≤ 1048576) (h0 : p0 < s.size) (h34 : at_ s p0 = 34) :
    Calls Tryz.prog 69 #[.string s, .int .i64 p0] w fun e w' => e = .returned (.tuple #[.string (quotedIn s p0).1, .int .i64 (quotedIn s p0).2]) ∧ Below w.heap.size w w' := by
  obtain ⟨i0, hi, hz0, hz1, hz2⟩ := info_parts binfo.Tryzinfo
  have eat := at_eq s p0 h0
  rw [h34] at eat
  have HJ := Lib.hid (fun w => arith.in_yes p0 0 ((s.size : Int) - 1) w (by omega) (by omega))
  have HY : Hid (∀ l q, some (l, q) = readQ s (p0 + 1) [] → quotedIn s p0 = (⟨l.toArray⟩, (q : Int))) := fun l q h => in_some h.symm
  have HN : Hid (readQ s (p0 + 1) [] = none → quotedIn s p0 = (⟨#[]⟩, -1)) := fun h => in_none h
  have hown1 : (w.alloc (.cells #[] 5)).ownsRow w.heap.size 5 1 (.slice (some ⟨w.heap.size, 0, none⟩) 0 0) 0 (bcells []) := World.ownsRow_lit w #[] 0 (Nat.le_refl _) (by simp [maxLen]) rfl
  have Hown := Lib.hid hown1
  have Hb := Lib.hid ((Below.refl w.heap.size w).alloc (Nat.le_refl _) (.cells #[] 5))
  clear hown1
  go_enter Tryz.func69, Tryz.ntmps69
  go_wp2_with fail
  refine (HJ.out _).mono ?_
  rintro e w1 ⟨rfl, rfl⟩
  go_wp2_with fail
  clear eat h34 HJ
  go_loopw [1, 6] (fun i v wr => ∃ (p m : Nat) (l : List UInt8), i = .int .i64 p ∧ p ≤ s.size ∧ m ≤ 4 * p ∧ l.length = m ∧ Hid (readQ s p l = readQ s (p0 + 1) []) ∧ wr.ownsRow w.heap.size 5 1 v m (bcells l) ∧ Below w.heap.size w wr) (fun i _ _ => s.size - (intOf i).toNat)
  case atStart => exact ⟨p0 + 1, 0, [], by go_num, by omega, by omega, rfl, rfl, Hown.out, Hb.out⟩
  case round =>
    clear Hown Hb
    obtain ⟨p, m, l, rfl, hp, hm, hlen, hr, hown, hbel⟩ := hrel
    by_cases hlt : p < s.size
    · have eat := at_eq s p hlt
      have hbd := at_bd s p
      by_cases c34 : at_ s p = 34
      · rw [c34] at eat
        have HR := Lib.hid (HY.out l (p + 1) ((read_close hlt c34).symm.trans hr.out))
        have hconv := binfo.conv hlen hown
        have Hbel := Lib.hid hbel
        clear hown hbel hr hlen hbd c34
        go_wp2_with fail
        go_ret2
        exact ⟨by rw [HR.out]; rfl, Hbel.out⟩
      have HS := Lib.hid (step_of (.inl c34) hr.out)
      have e34 : (at_ s p == 34) = false := by simpa using c34
      by_cases c92 : at_ s p = 92
      · have HE := Lib.hid (fun a ha w => spec_escI s a (p + 1) ha w hs (by omega))
        have es : stepF s p = escF s (p + 1) := by unfold stepF; rw [if_pos ⟨hlt, c92⟩]
        rw [es] at HS
        rw [c92] at eat e34
        have Hlen := Lib.hid hlen
        generalize escF s (p + 1) = r at HE HS
        clear es hr c34 c92 hbd hlen
        obtain ⟨x, y⟩ := r
        rcases HS.out with ⟨hy, hn⟩ | ⟨q, hy, hpq, hqs, hx0, hx1, hnext⟩
        · have hy' : y < 0 := hy
          have HR := Lib.hid (HN.out hn)
          clear HS hn hy hown
          go_wp2_with fail
          refine (HE.out _ (by omega) _).mono ?_
          rintro e w2 ⟨rfl, rfl⟩
          go_wp2_with fail
          go_ret2
          exact ⟨by rw [HR.out]; rfl, hbel⟩
        · obtain rfl : y = (q : Int) := hy
          have Hn := Lib.hid hnext
          have HT := Lib.hid (fun w => rune.spec_text x w (by have : 0 ≤ x := hx0; omega) (by have : x ≤ 1114111 := hx1; omega))
          have h4 := rune.text_le x
          clear HS hnext hx0 hx1
          go_wp2_with fail
          refine (HE.out _ (by omega) _).mono ?_
          rintro e w2 ⟨rfl, rfl⟩
          clear HE
          go_wp2_with fail
          refine (HT.out _).mono ?_
          rintro e w2 ⟨rfl, hb2⟩
          clear HT
          have Hn2 : Hid (readQ s q (l ++ (rune.textF x).data.toList) = readQ s (p0 + 1) []) := Hn.out
          generalize rune.textF x = t at Hn2 h4
          have hown2 := own_below hown hb2
          have hbel2 := hbel.trans (hb2.mono hbel.size)
          clear hown hbel hb2 Hn
          go_wp2_with (first | (at_builtin; refine Lib.wpList_append_own_string _ rfl (.tmp 57) (.tmp 59) 22 9 rfl w.heap.size 5 i0 Tryz.underlying22 Tryz.underlying9 hi hz0 hz1 hz2 _ m _ rfl hown2 t rfl (by unfold maxLen; omega) (by omega) (by have := hbel2.size; omega) ?_) | fail)
          intro v3 w3 hown3 hg3 _
          have hbel3 : Below w.heap.size w w3 := hbel2.grown hg3 (by have := hbel2.size; omega) (fun b hb => (hown2.lt b hb).1)
          rw [show Lib.strCells t = bcells t.data.toList from rfl, ← bcells_append] at hown3
          clear hown2 hbel2 hg3
          go_wp2_with fail
          go_roundw
          case rel => exact ⟨q, m + t.size, l ++ t.data.toList, rfl, hqs, by omega, by rw [List.length_append, Hlen.out]; simp, Hn2.out, hown3, hbel3⟩
          case measure => simp [intOf]; omega
      · have HA := Lib.hid (fun w => rune.spec_at s p w (by unfold maxLen; omega))
        unfold rune.AtRes at HA
        have es : stepF s p = runeF s p := by unfold stepF; rw [if_neg (fun h => c92 h.2)]
        rw [es] at HS
        unfold runeF at HS
        have e92 : (at_ s p == 92) = false := by simpa using c92
        have Hlen := Lib.hid hlen
        generalize rune.atF s (p : Int) = r at HA HS
        clear es hr c34 c92 hlen
        obtain ⟨x, y⟩ := r
        by_cases c32 : x < 32
        · have HR : Hid (quotedIn s p0 = (⟨#[]⟩, -1)) := by
            have h := HS.out
            simp only [if_pos c32] at h
            rcases h with ⟨_, hn⟩ | ⟨q, hy, _⟩
            · exact HN.out hn
            · simp only at hy
              omega
          clear HS hown
          go_wp2_with fail
          refine (HA.out _).mono ?_
          rintro e w2 ⟨rfl, hb2⟩
          have hbel2 := hbel.trans (hb2.mono hbel.size)
          go_wp2_with fail
          go_ret2
          exact ⟨by rw [HR.out]; rfl, hbel2⟩
        · have h := HS.out
          simp only [if_neg c32] at h
          clear HS
          rcases h with ⟨hy, hn⟩ | ⟨q, hy, hpq, hqs, hx0, hx1, hnext⟩
          · have HR := Lib.hid (HN.out hn)
            clear hn hown
            go_wp2_with fail
            refine (HA.out _).mono ?_
            rintro e w2 ⟨rfl, hb2⟩
            have hbel2 := hbel.trans (hb2.mono hbel.size)
            go_wp2_with fail
            go_ret2
            exact ⟨by rw [HR.out]; rfl, hbel2⟩
          · subst hy
            have Hn := Lib.hid hnext
            have HT := Lib.hid (fun w => rune.spec_text x w (by omega) (by omega))
            have h4 := rune.text_le x
            clear hnext
            go_wp2_with fail
            refine (HA.out _).mono ?_
            rintro e w1 ⟨rfl, hb1⟩
            have hown1 := own_below hown hb1
            have hbel1 := hbel.trans (hb1.mono hbel.size)
            clear HA hown hbel hb1
            go_wp2_with fail
            refine (HT.out _).mono ?_
            rintro e w2 ⟨rfl, hb2⟩
            clear HT
            have Hn2 : Hid (readQ s q (l ++ (rune.textF x).data.toList) = readQ s (p0 + 1) []) := Hn.out
            generalize rune.textF x = t at Hn2 h4
            have hown2 := own_below hown1 hb2
            have hbel2 := hbel1.trans (hb2.mono hbel1.size)
            clear hown1 hbel1 hb2 Hn
            go_wp2_with (first | (at_builtin; refine Lib.wpList_append_own_string _ rfl (.tmp 57) (.tmp 59) 22 9 rfl w.heap.size 5 i0 Tryz.underlying22 Tryz.underlying9 hi hz0 hz1 hz2 _ m _ rfl hown2 t rfl (by unfold maxLen; omega) (by omega) (by have := hbel2.size; omega) ?_) | fail)
            intro v3 w3 hown3 hg3 _
            have hbel3 : Below w.heap.size w w3 := hbel2.grown hg3 (by have := hbel2.size; omega) (fun b hb => (hown2.lt b hb).1)
            rw [show Lib.strCells t = bcells t.data.toList from rfl, ← bcells_append] at hown3
            clear hown2 hbel2 hg3
            go_wp2_with fail
            go_roundw
            case rel => exact ⟨q, m + t.size, l ++ t.data.toList, rfl, hqs, by omega, by rw [List.length_append, Hlen.out]; simp, Hn2.out, hown3, hbel3⟩
            case measure => simp [intOf]; omega
    · have HR := Lib.hid (HN.out ((read_end (l := l) (by omega)).symm.trans hr.out).symm)
      clear hr hown
      go_wp2_with fail
      go_ret2
      exact ⟨by rw [HR.out]; rfl, hbel⟩
theorem spec_readq (s : ByteArray) (a : Int) (w : World) (hs : s.size ≤ 1048576) (ha0 : -9223372036854775808 ≤ a) (ha1 : a ≤ 9223372036854775807) :
    Calls Tryz.prog 69 #[.string s, .int .i64 a] w fun e w' => e = .returned (.tuple #[.string (readF s a).1, .int .i64 (readF s a).2]) ∧ Below w.heap.size w w' := by
  by_cases h : 0 ≤ a ∧ a < s.size
  · obtain ⟨p, rfl⟩ := Int.eq_ofNat_of_zero_le h.1
    by_cases c : at_ s p = 34
    · rw [readF_yes (by omega) c]
      exact spec_in s p w hs (by omega) c
    · rw [readF_no (fun hc => c (by simpa using hc.2.2))]
      have eat := at_eq s p (by omega)
      have e34 : (at_ s p == 34) = false := by simpa using c
      have HJ := Lib.hid (fun w => arith.in_yes p 0 ((s.size : Int) - 1) w (by omega) (by omega))
      have hlt : p < s.size := by omega
      go_enter Tryz.func69, Tryz.ntmps69
      go_wp2_with fail
      refine (HJ.out _).mono ?_
      rintro e w1 ⟨rfl, rfl⟩
      go_wp2_with fail
      go_ret2
      exact ⟨rfl, Below.refl _ _⟩
  · rw [readF_no (fun hc => h ⟨hc.1, hc.2.1⟩)]
    have HJ := Lib.hid (fun w => arith.in_no a 0 ((s.size : Int) - 1) w (by omega))
    go_enter Tryz.func69, Tryz.ntmps69
    go_wp2_with fail
    refine (HJ.out _).mono ?_
    rintro e w1 ⟨rfl, rfl⟩
    go_wp2_with fail
    go_ret2
    exact ⟨rfl, Below.refl _ _⟩
end Go.Proofs.YtegpcjkcejijpaaGreatDoor.readq
