/- spec.l09Four, spec.l09Escape. (printed by gen_readqs.py) -/
import Derived.Test.YtnaeanhcmpmojaaDoorReadQM
import Derived.Test.YtnaeanhcmpmojaaDoorInS
namespace Go.Proofs.YtnaeanhcmpmojaaDoor.readq
open Go.ChangeShapes Go.WideShapes Go.ChangeAt Go.RowKit
set_option linter.unusedVariables false

def valI (x : Int) : Int := if 48 ≤ x ∧ x ≤ 57 then x - 48 else if 97 ≤ x ∧ x ≤ 102 then x - 87 else -1
theorem hexv_lo {x : Int} (h : ¬ (65 ≤ x ∧ x ≤ 70)) : hexv x = valI x := by
  unfold hexv valI
  by_cases a : 48 ≤ x ∧ x ≤ 57
  · rw [if_pos a, if_pos a]
  · rw [if_neg a, if_neg a]
    by_cases b : 97 ≤ x ∧ x ≤ 102
    · rw [if_pos b, if_pos b]
    · rw [if_neg b, if_neg b, if_neg h]
theorem hexv_up {x : Int} (h : 65 ≤ x ∧ x ≤ 70) : hexv x = valI (x + 32) := by
  unfold hexv valI
  rw [if_neg (by omega), if_neg (by omega), if_pos h, if_neg (by omega), if_pos (by omega)]
  omega
theorem value_any (x : Int) (w : World) (h0 : 0 ≤ x) (h1 : x < 256) :
    Calls Tryd.prog 120 #[.int .u8 x] w fun e w' => e = .returned (.int .i64 (valI x)) ∧ w = w' := by
  by_cases a1 : 48 ≤ x
  · by_cases a2 : x ≤ 57
    · have hv : valI x = x - 48 := by unfold valI; rw [if_pos ⟨a1, a2⟩]
      go_enter Tryd.func120, Tryd.ntmps120
      go_wp2
      go_ret
      exact ⟨ret_int hv.symm, rfl⟩
    · by_cases a3 : 97 ≤ x
      · by_cases a4 : x ≤ 102
        · have hv : valI x = x - 97 + 10 := by unfold valI; rw [if_neg (by omega), if_pos ⟨a3, a4⟩]; omega
          go_enter Tryd.func120, Tryd.ntmps120
          go_wp2
          go_ret
          exact ⟨rfl, rfl⟩
        · have hv : valI x = -1 := by unfold valI; rw [if_neg (by omega), if_neg (by omega)]
          go_enter Tryd.func120, Tryd.ntmps120
          go_wp2
          go_ret
          exact ⟨rfl, rfl⟩
      · have hv : valI x = -1 := by unfold valI; rw [if_neg (by omega), if_neg (by omega)]
        go_enter Tryd.func120, Tryd.ntmps120
        go_wp2
        go_ret
        exact ⟨rfl, rfl⟩
  · have hv : valI x = -1 := by unfold valI; rw [if_neg (by omega), if_neg (by omega)]
    go_enter Tryd.func120, Tryd.ntmps120
    go_wp2
    go_ret
    exact ⟨rfl, rfl⟩

theorem acc_le {s : ByteArray} {p k : Nat} (hk : k ≤ 4) (h : digs s p k) : 0 ≤ acc s p k ∧ acc s p k ≤ 65535 := by
  have h1 := acc_bd s p k h
  have h2 : (16 : Int) ^ k ≤ 16 ^ 4 := by
    match k, hk with
    | 0, _ => decide
    | 1, _ => decide
    | 2, _ => decide
    | 3, _ => decide
    | 4, _ => decide
  have e : (16 : Int) ^ 4 = 65536 := by decide
  omega
theorem four_bad {s : ByteArray} {p k : Nat} (hk : k < 4) (h : hexv (at_ s (p + k)) < 0) : four s p = -1 :=
  four_no (fun ⟨_, hd⟩ => by have := hd k hk; omega)
theorem spec_four (s : ByteArray) (p : Nat) (w : World) (hs : s.size ≤ 1048576) (hp : p ≤ 2000000) :
    Calls Tryd.prog 103 #[.string s, .int .i64 p] w fun e w' => e = .returned (.int .i64 (four s p)) ∧ w = w' := by
  by_cases h1 : s.size < p + 4
  · have Hf := Lib.hid (four_no (s := s) (p := p) (by omega))
    go_enter Tryd.func103, Tryd.ntmps103
    go_wp2_with fail
    go_ret
    exact ⟨by rw [Hf.out]; rfl, rfl⟩
  have Hyes := Lib.hid (fun h => (four_yes (s := s) (p := p) (by omega) h).1)
  go_enter Tryd.func103, Tryd.ntmps103
  go_wp2_with fail
  go_loop [5, 6] (fun a i => ∃ k : Nat, k ≤ 4 ∧ i = .int .i64 ((p + k : Nat) : Int) ∧ a = .int .i64 (acc s p k) ∧ Hid (digs s p k)) (fun _ i => p + 4 - (intOf i).toNat)
  case atStart => exact ⟨0, by omega, by go_num, rfl, fun j hj => by omega⟩
  case round =>
    obtain ⟨k, hk, rfl, rfl, hd⟩ := hrel
    have hb := acc_le hk hd.out
    by_cases hlt : k < 4
    · have eat := at_eq s (p + k) (by omega)
      have hbd := at_bd s (p + k)
      by_cases hv : hexv (at_ s (p + k)) < 0
      · have Hf := Lib.hid (four_bad hlt hv)
        by_cases hu : 65 ≤ at_ s (p + k) ∧ at_ s (p + k) ≤ 70
        · rw [hexv_up hu] at hv
          have HV := Lib.hid (fun w => value_any (at_ s (p + k) + 32) w (by omega) (by omega))
          obtain ⟨hu1, hu2⟩ := hu
          generalize valI (at_ s (p + k) + 32) = d at hv HV
          clear hd hb
          generalize acc s p k = n
          go_wp2_with fail
          refine (HV.out _).mono ?_
          rintro e w1 ⟨rfl, rfl⟩
          go_wp2_with fail
          go_ret
          exact ⟨by rw [Hf.out]; rfl, rfl⟩
        · rw [hexv_lo hu] at hv
          have HV := Lib.hid (fun w => value_any (at_ s (p + k)) w (by omega) (by omega))
          generalize valI (at_ s (p + k)) = d at hv HV
          clear hd hb
          generalize acc s p k = n
          by_cases hu1 : at_ s (p + k) < 65
          · go_wp2_with fail
            refine (HV.out _).mono ?_
            rintro e w1 ⟨rfl, rfl⟩
            go_wp2_with fail
            go_ret
            exact ⟨by rw [Hf.out]; rfl, rfl⟩
          · have hu2 : 70 < at_ s (p + k) := by omega
            go_wp2_with fail
            refine (HV.out _).mono ?_
            rintro e w1 ⟨rfl, rfl⟩
            go_wp2_with fail
            go_ret
            exact ⟨by rw [Hf.out]; rfl, rfl⟩
      · have Hd : Hid (digs s p (k + 1)) := fun j hj => by
          by_cases e : j = k
          · subst e; omega
          · exact hd.out j (by omega)
        have hl := hexv_lt (at_ s (p + k))
        have Ha : Hid (acc s p (k + 1) = 16 * acc s p k + hexv (at_ s (p + k))) := rfl
        by_cases hu : 65 ≤ at_ s (p + k) ∧ at_ s (p + k) ≤ 70
        · rw [hexv_up hu] at hv hl Ha
          have HV := Lib.hid (fun w => value_any (at_ s (p + k) + 32) w (by omega) (by omega))
          obtain ⟨hu1, hu2⟩ := hu
          generalize valI (at_ s (p + k) + 32) = d at hv hl HV Ha
          clear hd
          generalize acc s p k = n at hb Ha
          go_wp2_with fail
          refine (HV.out _).mono ?_
          rintro e w1 ⟨rfl, rfl⟩
          go_wp2_with fail
          go_round
          case rel => exact ⟨k + 1, by omega, by go_num, by rw [Ha.out], Hd⟩
          case measure => simp [intOf]; omega
        · rw [hexv_lo hu] at hv hl Ha
          have HV := Lib.hid (fun w => value_any (at_ s (p + k)) w (by omega) (by omega))
          generalize valI (at_ s (p + k)) = d at hv hl HV Ha
          clear hd
          generalize acc s p k = n at hb Ha
          by_cases hu1 : at_ s (p + k) < 65
          · go_wp2_with fail
            refine (HV.out _).mono ?_
            rintro e w1 ⟨rfl, rfl⟩
            go_wp2_with fail
            go_round
            case rel => exact ⟨k + 1, by omega, by go_num, by rw [Ha.out], Hd⟩
            case measure => simp [intOf]; omega
          · have hu2 : 70 < at_ s (p + k) := by omega
            go_wp2_with fail
            refine (HV.out _).mono ?_
            rintro e w1 ⟨rfl, rfl⟩
            go_wp2_with fail
            go_round
            case rel => exact ⟨k + 1, by omega, by go_num, by rw [Ha.out], Hd⟩
            case measure => simp [intOf]; omega
    · obtain rfl : k = 4 := by omega
      have Hr := Lib.hid (Hyes.out hd.out)
      clear hd
      generalize acc s p 4 = n at hb Hr
      go_wp2_with fail
      go_ret
      exact ⟨by rw [Hr.out]; rfl, rfl⟩
theorem spec_fourI (s : ByteArray) (a : Int) (p : Nat) (ha : a = (p : Int)) (w : World) (hs : s.size ≤ 1048576) (hp : p ≤ 2000000) :
    Calls Tryd.prog 103 #[.string s, .int .i64 a] w fun e w' => e = .returned (.int .i64 (four s p)) ∧ w = w' := by
  subst ha
  exact spec_four s p w hs hp

theorem spec_esc_out (s : ByteArray) (p : Nat) (w : World) (hs : s.size ≤ 1048576) (hp : p ≤ 2000000) (h : s.size ≤ p) :
    Calls Tryd.prog 76 #[.string s, .int .i64 p] w fun e w' => e = .returned (.tuple #[.int .i64 (escF s p).1, .int .i64 (escF s p).2]) ∧ w = w' := by
  have e : escF s p = (0, -1) := by unfold escF; rw [if_neg (by omega)]
  rw [e]
  go_enter Tryd.func76, Tryd.ntmps76
  go_wp2_with fail
  go_ret2
  exact ⟨rfl, rfl⟩
theorem escF_plain {s : ByteArray} {p : Nat} {n : Int} (hp : p < s.size) (h : plain (at_ s p) = some n) : escF s p = (n, (p : Int) + 1) := by
  unfold escF
  rw [if_pos hp, h]
  rfl
theorem escF_u {s : ByteArray} {p : Nat} (hp : p < s.size) (h : at_ s p = 117) : escF s p = uF s p := by
  unfold escF
  rw [if_pos hp, h]
  rfl
theorem escF_none {s : ByteArray} {p : Nat} (h : plain (at_ s p) = none) (h2 : at_ s p ≠ 117) : escF s p = (0, -1) := by
  unfold escF
  by_cases hp : p < s.size
  · rw [if_pos hp, h]
    exact if_neg h2
  · rw [if_neg hp]
set_option maxHeartbeats 4000000 in
set_option maxRecDepth 100000 in
theorem spec_esc_plain (s : ByteArray) (p : Nat) (w : World) (hs : s.size ≤ 1048576) (hp : p < s.size) (hu : at_ s p ≠ 117) :
    Calls Tryd.prog 76 #[.string s, .int .i64 p] w fun e w' => e = .returned (.tuple #[.int .i64 (escF s p).1, .int .i64 (escF s p).2]) ∧ w = w' := by
  have eat := at_eq s p hp
  have hbd := at_bd s p
  by_cases h34 : at_ s p = 34
  · rw [escF_plain (n := 34) hp (by rw [h34]; rfl)]
    rw [h34] at eat
    clear hu hbd
    go_enter Tryd.func76, Tryd.ntmps76
    go_wp2_with fail
    go_ret2
    exact ⟨rfl, rfl⟩
  by_cases h92 : at_ s p = 92
  · rw [escF_plain (n := 92) hp (by rw [h92]; rfl)]
    rw [h92] at eat
    clear hu hbd
    go_enter Tryd.func76, Tryd.ntmps76
    go_wp2_with fail
    go_ret2
    exact ⟨rfl, rfl⟩
  by_cases h47 : at_ s p = 47
  · rw [escF_plain (n := 47) hp (by rw [h47]; rfl)]
    rw [h47] at eat
    clear hu hbd
    go_enter Tryd.func76, Tryd.ntmps76
    go_wp2_with fail
    go_ret2
    exact ⟨rfl, rfl⟩
  by_cases h98 : at_ s p = 98
  · rw [escF_plain (n := 8) hp (by rw [h98]; rfl)]
    rw [h98] at eat
    clear hu hbd
    go_enter Tryd.func76, Tryd.ntmps76
    go_wp2_with fail
    go_ret2
    exact ⟨rfl, rfl⟩
  by_cases h102 : at_ s p = 102
  · rw [escF_plain (n := 12) hp (by rw [h102]; rfl)]
    rw [h102] at eat
    clear hu hbd
    go_enter Tryd.func76, Tryd.ntmps76
    go_wp2_with fail
    go_ret2
    exact ⟨rfl, rfl⟩
  by_cases h110 : at_ s p = 110
  · rw [escF_plain (n := 10) hp (by rw [h110]; rfl)]
    rw [h110] at eat
    clear hu hbd
    go_enter Tryd.func76, Tryd.ntmps76
    go_wp2_with fail
    go_ret2
    exact ⟨rfl, rfl⟩
  by_cases h114 : at_ s p = 114
  · rw [escF_plain (n := 13) hp (by rw [h114]; rfl)]
    rw [h114] at eat
    clear hu hbd
    go_enter Tryd.func76, Tryd.ntmps76
    go_wp2_with fail
    go_ret2
    exact ⟨rfl, rfl⟩
  by_cases h116 : at_ s p = 116
  · rw [escF_plain (n := 9) hp (by rw [h116]; rfl)]
    rw [h116] at eat
    clear hu hbd
    go_enter Tryd.func76, Tryd.ntmps76
    go_wp2_with fail
    go_ret2
    exact ⟨rfl, rfl⟩
  have hn : plain (at_ s p) = none := by unfold plain; rw [if_neg h34, if_neg h92, if_neg h47, if_neg h98, if_neg h102, if_neg h110, if_neg h114, if_neg h116]
  rw [escF_none hn hu]
  clear hn
  go_enter Tryd.func76, Tryd.ntmps76
  go_wp2_with fail
  go_ret2
  exact ⟨rfl, rfl⟩
set_option maxHeartbeats 4000000 in
set_option maxRecDepth 100000 in
theorem spec_u_bad (s : ByteArray) (p : Nat) (w : World) (hs : s.size ≤ 1048576) (hp : p < s.size) (hu : at_ s p = 117) (h : four s (p + 1) < 0) :
    Calls Tryd.prog 76 #[.string s, .int .i64 p] w fun e w' => e = .returned (.tuple #[.int .i64 (escF s p).1, .int .i64 (escF s p).2]) ∧ w = w' := by
  have e : escF s p = (0, -1) := by
    rw [escF_u hp hu]
    unfold uF
    rw [if_pos h]
  rw [e]
  have eat := at_eq s p hp
  rw [hu] at eat
  have HN := Lib.hid (fun (x l m : Int) (w : World) (h : x < l ∨ m < x) => arith.in_no x l m w h)
  have HY := Lib.hid (fun (x l m : Int) (w : World) (h1 : l ≤ x) (h2 : x ≤ m) => arith.in_yes x l m w h1 h2)
  have HF := Lib.hid (fun a ha w => spec_fourI s a (p + 1) ha w hs (by omega))
  have hb := four_bd s (p + 1)
  generalize four s (p + 1) = n at *
  clear e hu
  go_enter Tryd.func76, Tryd.ntmps76
  go_wp2_with fail
  refine (HF.out _ (by omega) _).mono ?_
  rintro e w1 ⟨rfl, rfl⟩
  go_wp2_with fail
  go_ret2
  exact ⟨rfl, rfl⟩

set_option maxHeartbeats 4000000 in
set_option maxRecDepth 100000 in
theorem spec_u_low (s : ByteArray) (p : Nat) (w : World) (hs : s.size ≤ 1048576) (hp : p < s.size) (hu : at_ s p = 117) (h1 : 56320 ≤ four s (p + 1)) (h2 : four s (p + 1) ≤ 57343) :
    Calls Tryd.prog 76 #[.string s, .int .i64 p] w fun e w' => e = .returned (.tuple #[.int .i64 (escF s p).1, .int .i64 (escF s p).2]) ∧ w = w' := by
  have e : escF s p = (0, -1) := by
    rw [escF_u hp hu]
    unfold uF
    rw [if_neg (by omega), if_pos ⟨h1, h2⟩]
  rw [e]
  have eat := at_eq s p hp
  rw [hu] at eat
  have HN := Lib.hid (fun (x l m : Int) (w : World) (h : x < l ∨ m < x) => arith.in_no x l m w h)
  have HY := Lib.hid (fun (x l m : Int) (w : World) (h1 : l ≤ x) (h2 : x ≤ m) => arith.in_yes x l m w h1 h2)
  have HF := Lib.hid (fun a ha w => spec_fourI s a (p + 1) ha w hs (by omega))
  have hb := four_bd s (p + 1)
  generalize four s (p + 1) = n at *
  clear e hu
  go_enter Tryd.func76, Tryd.ntmps76
  go_wp2_with fail
  refine (HF.out _ (by omega) _).mono ?_
  rintro e w1 ⟨rfl, rfl⟩
  go_wp2_with fail
  refine (HY.out _ _ _ _ (by omega) (by omega)).mono ?_
  rintro e w1 ⟨rfl, rfl⟩
  go_wp2_with fail
  go_ret2
  exact ⟨rfl, rfl⟩

set_option maxHeartbeats 4000000 in
set_option maxRecDepth 100000 in
theorem spec_u_one (s : ByteArray) (p : Nat) (w : World) (hs : s.size ≤ 1048576) (hp : p < s.size) (hu : at_ s p = 117) (h0 : 0 ≤ four s (p + 1)) (h1 : ¬ (55296 ≤ four s (p + 1) ∧ four s (p + 1) ≤ 57343)) :
    Calls Tryd.prog 76 #[.string s, .int .i64 p] w fun e w' => e = .returned (.tuple #[.int .i64 (escF s p).1, .int .i64 (escF s p).2]) ∧ w = w' := by
  have e : escF s p = (four s (p + 1), (p : Int) + 5) := by
    rw [escF_u hp hu]
    unfold uF
    rw [if_neg (by omega), if_neg (by omega), if_pos (by omega)]
    rfl
  rw [e]
  have eat := at_eq s p hp
  rw [hu] at eat
  have HN := Lib.hid (fun (x l m : Int) (w : World) (h : x < l ∨ m < x) => arith.in_no x l m w h)
  have HY := Lib.hid (fun (x l m : Int) (w : World) (h1 : l ≤ x) (h2 : x ≤ m) => arith.in_yes x l m w h1 h2)
  have HF := Lib.hid (fun a ha w => spec_fourI s a (p + 1) ha w hs (by omega))
  have hb := four_bd s (p + 1)
  generalize four s (p + 1) = n at *
  clear e hu
  go_enter Tryd.func76, Tryd.ntmps76
  go_wp2_with fail
  refine (HF.out _ (by omega) _).mono ?_
  rintro e w1 ⟨rfl, rfl⟩
  go_wp2_with fail
  refine (HN.out _ _ _ _ (by omega)).mono ?_
  rintro e w1 ⟨rfl, rfl⟩
  go_wp2_with fail
  refine (HN.out _ _ _ _ (by omega)).mono ?_
  rintro e w1 ⟨rfl, rfl⟩
  go_wp2_with fail
  go_ret2
  exact ⟨rfl, rfl⟩

set_option maxHeartbeats 4000000 in
set_option maxRecDepth 100000 in
theorem spec_u_end (s : ByteArray) (p : Nat) (w : World) (hs : s.size ≤ 1048576) (hp : p < s.size) (hu : at_ s p = 117) (h0 : 55296 ≤ four s (p + 1)) (h1 : four s (p + 1) ≤ 56319) (h7 : s.size < p + 7) :
    Calls Tryd.prog 76 #[.string s, .int .i64 p] w fun e w' => e = .returned (.tuple #[.int .i64 (escF s p).1, .int .i64 (escF s p).2]) ∧ w = w' := by
  have e : escF s p = (0, -1) := by
    rw [escF_u hp hu]
    unfold uF
    rw [if_neg (by omega), if_neg (by omega), if_neg (by omega)]
    rw [if_neg (by omega)]
  rw [e]
  have eat := at_eq s p hp
  rw [hu] at eat
  have HN := Lib.hid (fun (x l m : Int) (w : World) (h : x < l ∨ m < x) => arith.in_no x l m w h)
  have HY := Lib.hid (fun (x l m : Int) (w : World) (h1 : l ≤ x) (h2 : x ≤ m) => arith.in_yes x l m w h1 h2)
  have HF := Lib.hid (fun a ha w => spec_fourI s a (p + 1) ha w hs (by omega))
  have hb := four_bd s (p + 1)
  generalize four s (p + 1) = n at *
  clear e hu
  go_enter Tryd.func76, Tryd.ntmps76
  go_wp2_with fail
  refine (HF.out _ (by omega) _).mono ?_
  rintro e w1 ⟨rfl, rfl⟩
  go_wp2_with fail
  refine (HN.out _ _ _ _ (by omega)).mono ?_
  rintro e w1 ⟨rfl, rfl⟩
  go_wp2_with fail
  refine (HY.out _ _ _ _ (by omega) (by omega)).mono ?_
  rintro e w1 ⟨rfl, rfl⟩
  go_wp2_with fail
  go_ret2
  exact ⟨rfl, rfl⟩

set_option maxHeartbeats 4000000 in
set_option maxRecDepth 100000 in
theorem spec_u_n5 (s : ByteArray) (p : Nat) (w : World) (hs : s.size ≤ 1048576) (hp : p < s.size) (hu : at_ s p = 117) (h0 : 55296 ≤ four s (p + 1)) (h1 : four s (p + 1) ≤ 56319) (h7 : p + 7 ≤ s.size) (h5 : ¬ at_ s (p + 5) = 92) :
    Calls Tryd.prog 76 #[.string s, .int .i64 p] w fun e w' => e = .returned (.tuple #[.int .i64 (escF s p).1, .int .i64 (escF s p).2]) ∧ w = w' := by
  have e : escF s p = (0, -1) := by
    rw [escF_u hp hu]
    unfold uF
    rw [if_neg (by omega), if_neg (by omega), if_neg (by omega)]
    rw [if_neg (fun h => h5 h.2.1)]
  rw [e]
  have eat := at_eq s p hp
  rw [hu] at eat
  have HN := Lib.hid (fun (x l m : Int) (w : World) (h : x < l ∨ m < x) => arith.in_no x l m w h)
  have HY := Lib.hid (fun (x l m : Int) (w : World) (h1 : l ≤ x) (h2 : x ≤ m) => arith.in_yes x l m w h1 h2)
  have HF := Lib.hid (fun a ha w => spec_fourI s a (p + 1) ha w hs (by omega))
  have hb := four_bd s (p + 1)
  generalize four s (p + 1) = n at *
  clear e hu
  have eat5 := at_eq s (p + 5) (by omega)
  have hb5 := at_bd s (p + 5)
  go_enter Tryd.func76, Tryd.ntmps76
  go_wp2_with fail
  refine (HF.out _ (by omega) _).mono ?_
  rintro e w1 ⟨rfl, rfl⟩
  go_wp2_with fail
  refine (HN.out _ _ _ _ (by omega)).mono ?_
  rintro e w1 ⟨rfl, rfl⟩
  go_wp2_with fail
  refine (HY.out _ _ _ _ (by omega) (by omega)).mono ?_
  rintro e w1 ⟨rfl, rfl⟩
  go_wp2_with fail
  go_ret2
  exact ⟨rfl, rfl⟩

set_option maxHeartbeats 4000000 in
set_option maxRecDepth 100000 in
theorem spec_u_n6 (s : ByteArray) (p : Nat) (w : World) (hs : s.size ≤ 1048576) (hp : p < s.size) (hu : at_ s p = 117) (h0 : 55296 ≤ four s (p + 1)) (h1 : four s (p + 1) ≤ 56319) (h7 : p + 7 ≤ s.size) (h5 : at_ s (p + 5) = 92) (h6 : ¬ at_ s (p + 6) = 117) :
    Calls Tryd.prog 76 #[.string s, .int .i64 p] w fun e w' => e = .returned (.tuple #[.int .i64 (escF s p).1, .int .i64 (escF s p).2]) ∧ w = w' := by
  have e : escF s p = (0, -1) := by
    rw [escF_u hp hu]
    unfold uF
    rw [if_neg (by omega), if_neg (by omega), if_neg (by omega)]
    rw [if_neg (fun h => h6 h.2.2.1)]
  rw [e]
  have eat := at_eq s p hp
  rw [hu] at eat
  have HN := Lib.hid (fun (x l m : Int) (w : World) (h : x < l ∨ m < x) => arith.in_no x l m w h)
  have HY := Lib.hid (fun (x l m : Int) (w : World) (h1 : l ≤ x) (h2 : x ≤ m) => arith.in_yes x l m w h1 h2)
  have HF := Lib.hid (fun a ha w => spec_fourI s a (p + 1) ha w hs (by omega))
  have hb := four_bd s (p + 1)
  generalize four s (p + 1) = n at *
  clear e hu
  have eat5 := at_eq s (p + 5) (by omega)
  rw [h5] at eat5
  have eat6 := at_eq s (p + 6) (by omega)
  have e6 : (at_ s (p + 6) == 117) = false := by simpa using h6
  have e7 : (at_ s (p + 6) != 117) = true := by simpa using h6
  go_enter Tryd.func76, Tryd.ntmps76
  go_wp2_with fail
  refine (HF.out _ (by omega) _).mono ?_
  rintro e w1 ⟨rfl, rfl⟩
  go_wp2_with fail
  refine (HN.out _ _ _ _ (by omega)).mono ?_
  rintro e w1 ⟨rfl, rfl⟩
  go_wp2_with fail
  refine (HY.out _ _ _ _ (by omega) (by omega)).mono ?_
  rintro e w1 ⟨rfl, rfl⟩
  go_wp2_with fail
  go_ret2
  exact ⟨rfl, rfl⟩

set_option maxHeartbeats 4000000 in
set_option maxRecDepth 100000 in
theorem spec_u_n7 (s : ByteArray) (p : Nat) (w : World) (hs : s.size ≤ 1048576) (hp : p < s.size) (hu : at_ s p = 117) (h0 : 55296 ≤ four s (p + 1)) (h1 : four s (p + 1) ≤ 56319) (h7 : p + 7 ≤ s.size) (h5 : at_ s (p + 5) = 92) (h6 : at_ s (p + 6) = 117) (h8 : four s (p + 7) < 56320 ∨ 57343 < four s (p + 7)) :
    Calls Tryd.prog 76 #[.string s, .int .i64 p] w fun e w' => e = .returned (.tuple #[.int .i64 (escF s p).1, .int .i64 (escF s p).2]) ∧ w = w' := by
  have e : escF s p = (0, -1) := by
    rw [escF_u hp hu]
    unfold uF
    rw [if_neg (by omega), if_neg (by omega), if_neg (by omega)]
    rw [if_neg (by omega)]
  rw [e]
  have eat := at_eq s p hp
  rw [hu] at eat
  have HN := Lib.hid (fun (x l m : Int) (w : World) (h : x < l ∨ m < x) => arith.in_no x l m w h)
  have HY := Lib.hid (fun (x l m : Int) (w : World) (h1 : l ≤ x) (h2 : x ≤ m) => arith.in_yes x l m w h1 h2)
  have HF := Lib.hid (fun a ha w => spec_fourI s a (p + 1) ha w hs (by omega))
  have hb := four_bd s (p + 1)
  generalize four s (p + 1) = n at *
  clear e hu
  have eat5 := at_eq s (p + 5) (by omega)
  rw [h5] at eat5
  have eat6 := at_eq s (p + 6) (by omega)
  rw [h6] at eat6
  have HF7 := Lib.hid (fun a ha w => spec_fourI s a (p + 7) ha w hs (by omega))
  have hb7 := four_bd s (p + 7)
  generalize four s (p + 7) = m at *
  go_enter Tryd.func76, Tryd.ntmps76
  go_wp2_with fail
  refine (HF.out _ (by omega) _).mono ?_
  rintro e w1 ⟨rfl, rfl⟩
  go_wp2_with fail
  refine (HN.out _ _ _ _ (by omega)).mono ?_
  rintro e w1 ⟨rfl, rfl⟩
  go_wp2_with fail
  refine (HY.out _ _ _ _ (by omega) (by omega)).mono ?_
  rintro e w1 ⟨rfl, rfl⟩
  go_wp2_with fail
  refine (HF7.out _ (by omega) _).mono ?_
  rintro e w1 ⟨rfl, rfl⟩
  go_wp2_with fail
  refine (HN.out _ _ _ _ (by omega)).mono ?_
  rintro e w1 ⟨rfl, rfl⟩
  go_wp2_with fail
  go_ret2
  exact ⟨rfl, rfl⟩

set_option maxHeartbeats 4000000 in
set_option maxRecDepth 100000 in
theorem spec_u_two (s : ByteArray) (p : Nat) (w : World) (hs : s.size ≤ 1048576) (hp : p < s.size) (hu : at_ s p = 117) (h0 : 55296 ≤ four s (p + 1)) (h1 : four s (p + 1) ≤ 56319) (h7 : p + 7 ≤ s.size) (h5 : at_ s (p + 5) = 92) (h6 : at_ s (p + 6) = 117) (h8 : 56320 ≤ four s (p + 7)) (h9 : four s (p + 7) ≤ 57343) :
    Calls Tryd.prog 76 #[.string s, .int .i64 p] w fun e w' => e = .returned (.tuple #[.int .i64 (escF s p).1, .int .i64 (escF s p).2]) ∧ w = w' := by
  have e : escF s p = (65536 + 1024 * (four s (p + 1) - 55296) + four s (p + 7) - 56320, (p : Int) + 11) := by
    rw [escF_u hp hu]
    unfold uF
    rw [if_neg (by omega), if_neg (by omega), if_neg (by omega)]
    rw [if_pos ⟨h7, h5, h6, h8, h9⟩]
    rfl
  rw [e]
  have eat := at_eq s p hp
  rw [hu] at eat
  have HN := Lib.hid (fun (x l m : Int) (w : World) (h : x < l ∨ m < x) => arith.in_no x l m w h)
  have HY := Lib.hid (fun (x l m : Int) (w : World) (h1 : l ≤ x) (h2 : x ≤ m) => arith.in_yes x l m w h1 h2)
  have HF := Lib.hid (fun a ha w => spec_fourI s a (p + 1) ha w hs (by omega))
  have hb := four_bd s (p + 1)
  generalize four s (p + 1) = n at *
  clear e hu
  have eat5 := at_eq s (p + 5) (by omega)
  rw [h5] at eat5
  have eat6 := at_eq s (p + 6) (by omega)
  rw [h6] at eat6
  have HF7 := Lib.hid (fun a ha w => spec_fourI s a (p + 7) ha w hs (by omega))
  have hb7 := four_bd s (p + 7)
  generalize four s (p + 7) = m at *
  go_enter Tryd.func76, Tryd.ntmps76
  go_wp2_with fail
  refine (HF.out _ (by omega) _).mono ?_
  rintro e w1 ⟨rfl, rfl⟩
  go_wp2_with fail
  refine (HN.out _ _ _ _ (by omega)).mono ?_
  rintro e w1 ⟨rfl, rfl⟩
  go_wp2_with fail
  refine (HY.out _ _ _ _ (by omega) (by omega)).mono ?_
  rintro e w1 ⟨rfl, rfl⟩
  go_wp2_with fail
  refine (HF7.out _ (by omega) _).mono ?_
  rintro e w1 ⟨rfl, rfl⟩
  go_wp2_with fail
  refine (HY.out _ _ _ _ (by omega) (by omega)).mono ?_
  rintro e w1 ⟨rfl, rfl⟩
  go_wp2_with fail
  go_ret2
  exact ⟨rfl, rfl⟩

theorem spec_esc (s : ByteArray) (p : Nat) (w : World) (hs : s.size ≤ 1048576) (hp : p ≤ 2000000) :
    Calls Tryd.prog 76 #[.string s, .int .i64 p] w fun e w' => e = .returned (.tuple #[.int .i64 (escF s p).1, .int .i64 (escF s p).2]) ∧ w = w' := by
  by_cases h : p < s.size
  · by_cases hu : at_ s p = 117
    · have hb := four_bd s (p + 1)
      by_cases c1 : four s (p + 1) < 0
      · exact spec_u_bad s p w hs h hu c1
      by_cases c2 : 56320 ≤ four s (p + 1) ∧ four s (p + 1) ≤ 57343
      · exact spec_u_low s p w hs h hu c2.1 c2.2
      by_cases c3 : 55296 ≤ four s (p + 1) ∧ four s (p + 1) ≤ 56319
      · by_cases c4 : p + 7 ≤ s.size
        · by_cases c5 : at_ s (p + 5) = 92
          · by_cases c6 : at_ s (p + 6) = 117
            · by_cases c7 : 56320 ≤ four s (p + 7) ∧ four s (p + 7) ≤ 57343
              · exact spec_u_two s p w hs h hu c3.1 c3.2 c4 c5 c6 c7.1 c7.2
              · exact spec_u_n7 s p w hs h hu c3.1 c3.2 c4 c5 c6 (by omega)
            · exact spec_u_n6 s p w hs h hu c3.1 c3.2 c4 c5 c6
          · exact spec_u_n5 s p w hs h hu c3.1 c3.2 c4 c5
        · exact spec_u_end s p w hs h hu c3.1 c3.2 (by omega)
      · exact spec_u_one s p w hs h hu (by omega) (by omega)
    · exact spec_esc_plain s p w hs h hu
  · exact spec_esc_out s p w hs hp (by omega)
theorem spec_escI (s : ByteArray) (a : Int) (p : Nat) (ha : a = (p : Int)) (w : World) (hs : s.size ≤ 1048576) (hp : p ≤ 2000000) :
    Calls Tryd.prog 76 #[.string s, .int .i64 a] w fun e w' => e = .returned (.tuple #[.int .i64 (escF s p).1, .int .i64 (escF s p).2]) ∧ w = w' := by
  subst ha
  exact spec_esc s p w hs hp
end Go.Proofs.YtnaeanhcmpmojaaDoor.readq
