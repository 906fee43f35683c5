/- spec.NameOk. -/
import Derived.Test.YtjjffdhcapjhdaaDoorWdS
import Derived.Test.YtjjffdhcapjhdaaDoorInS
namespace Go.Proofs.YtjjffdhcapjhdaaDoor.lab
open Go.ChangeShapes Go.WideShapes Go.ChangeAt Go.RowKit
set_option linter.unusedVariables false

set_option maxRecDepth 100000 in
set_option maxHeartbeats 4000000 in
theorem spec_name (s : ByteArray) (w : World) (hs : s.size ≤ 1048576) :
    Calls Tryd.prog 22 #[.string s] w fun e w' => e = .returned (.bool (yes (NameP s))) ∧ ∃ n, w' = w.drewN n := by
  obtain ⟨R, hR⟩ : ∃ R, yes (NameP s) = R := ⟨_, rfl⟩
  rw [hR]
  have Hno : Hid (¬ NameP s → R = false) := fun h => by rw [← hR]; exact yes_f h
  have Hyes : Hid (NameP s → R = true) := fun h => by rw [← hR]; exact yes_t h
  clear hR
  have HL := Lib.hid (fun x w => spec_letter x w)
  by_cases h0 : 1 ≤ s.size ∧ s.size ≤ 20
  case neg =>
    have Hf := Lib.hid (Hno.out fun h => h0 ⟨h.lo, h.hi⟩)
    have HI := Lib.hid (arith.in_no (s.size : Int) 1 20 w (by omega))
    clear h0 Hno Hyes HL
    go_enter Tryd.func22, Tryd.ntmps22
    go_wp2_with fail
    refine HI.out.mono ?_
    rintro e w1 ⟨rfl, rfl⟩
    go_wp2_with fail
    go_ret
    exact ⟨by rw [Hf.out]; rfl, 0, rfl⟩
  have HI := Lib.hid (arith.in_yes (s.size : Int) 1 20 w (by omega) (by omega))
  have hp0 : 0 < s.size := by omega
  have hat0 := at_eq s 0 hp0
  obtain ⟨m, hm⟩ : ∃ m : Nat, m = s.size - 1 := ⟨_, rfl⟩
  have hml : m < s.size := by omega
  have hmi : (s.size : Int) - 1 = (m : Int) := by omega
  have hatm := at_eq s m hml
  by_cases f0 : at_ s 0 = 45
  · have Hf := Lib.hid (Hno.out fun h => h.fst f0)
    rw [f0] at hat0
    clear f0 Hno Hyes hm h0 HL
    go_enter Tryd.func22, Tryd.ntmps22
    go_wp2_with fail
    refine HI.out.mono ?_
    rintro e w1 ⟨rfl, rfl⟩
    go_wp2_with fail
    go_ret
    exact ⟨by rw [Hf.out]; rfl, 0, rfl⟩
  have e0 : (at_ s 0 == 45) = false := beq_eq_false_iff_ne.2 f0
  by_cases fm : at_ s m = 45
  · have Hf := Lib.hid (Hno.out fun h => h.lst (by rw [← hm]; exact fm))
    rw [fm] at hatm
    generalize at_ s 0 = y0 at hat0 e0
    clear f0 fm Hno Hyes hm h0 HL
    go_enter Tryd.func22, Tryd.ntmps22
    go_wp2_with fail
    refine HI.out.mono ?_
    rintro e w1 ⟨rfl, rfl⟩
    go_wp2_with fail
    go_ret
    exact ⟨by rw [Hf.out]; rfl, 0, rfl⟩
  have em : (at_ s m == 45) = false := beq_eq_false_iff_ne.2 fm
  have Hmk := Lib.hid (fun h3 => Hyes.out ⟨h0.1, h0.2, f0, by rw [← hm]; exact fm, h3⟩)
  generalize at_ s 0 = y0 at hat0 e0
  generalize at_ s m = ym at hatm em
  clear f0 fm hm h0 Hyes
  go_enter Tryd.func22, Tryd.ntmps22
  go_wp2_with fail
  refine HI.out.mono ?_
  rintro e w1 ⟨rfl, rfl⟩
  go_wp2_with fail
  clear HI hat0 hatm hmi hml e0 em
  go_loopw [3] (fun i wr => ∃ k : Nat, k ≤ s.size ∧ i = .int .i64 k ∧ Hid (∀ j, j < k → nameB (at_ s j) = true) ∧ ∃ n, wr = w.drewN n) (fun i _ => s.size - (intOf i).toNat)
  case atStart => exact ⟨0, Nat.zero_le _, rfl, fun j hj => by omega, 0, rfl⟩
  case round =>
    obtain ⟨k, hk, rfl, hall, n0, rfl⟩ := hrel
    by_cases hlt : k < s.size
    · have hatk := at_eq s k hlt
      have HLk := Lib.hid (HL.out (at_ s k))
      have Hn1 : Hid (nameB (at_ s k) = false → R = false) := fun h => Hno.out fun h2 => by rw [h2.all k hlt] at h; cases h
      have Hn2 : Hid (nameB (at_ s k) = true → ∀ j, j < k + 1 → nameB (at_ s j) = true) := fun h j hj => by
        by_cases e : j = k
        · rw [e]; exact h
        · exact hall.out j (by omega)
      clear hall
      generalize at_ s k = x at hatk HLk Hn1 Hn2
      cases hb : isL x with
      | false =>
        rw [hb] at HLk
        by_cases hx : x = 45
        · have Hall := Lib.hid (Hn2.out (by unfold nameB; rw [hb, hx]; rfl))
          rw [hx] at hatk HLk
          clear hb hx Hn1 Hn2
          go_wp2_with fail
          refine (HLk.out _).mono ?_
          rintro e w2 ⟨rfl, rfl⟩
          go_wp2_with fail
          go_roundw
          case rel => exact ⟨k + 1, by omega, by go_num, Hall.out, _, rfl⟩
          case measure => simp [intOf]; omega
        · have ex : (x == 45) = false := beq_eq_false_iff_ne.2 hx
          have ex2 : (x != 45) = true := bne_iff_ne.2 hx
          have Hf := Lib.hid (Hn1.out (by unfold nameB; rw [hb, ex]; rfl))
          clear hb hx Hn1 Hn2
          go_wp2_with fail
          refine (HLk.out _).mono ?_
          rintro e w2 ⟨rfl, rfl⟩
          go_wp2_with fail
          go_ret
          exact ⟨by rw [Hf.out]; rfl, _, rfl⟩
      | true =>
        rw [hb] at HLk
        by_cases h1 : 65 ≤ x
        · by_cases h2 : x ≤ 90
          · have hx : x ≠ 45 := by omega
            have ex : (x == 45) = false := beq_eq_false_iff_ne.2 hx
            have ex2 : (x != 45) = true := bne_iff_ne.2 hx
            have Hf := Lib.hid (Hn1.out (by unfold nameB; rw [hb, ex, decide_eq_true h1, decide_eq_true h2]; rfl))
            clear hb hx Hn1 Hn2
            go_wp2_with fail
            refine (HLk.out _).mono ?_
            rintro e w2 ⟨rfl, rfl⟩
            go_wp2_with fail
            go_ret
            exact ⟨by rw [Hf.out]; rfl, _, rfl⟩
          · have Hall := Lib.hid (Hn2.out (by unfold nameB; rw [hb, decide_eq_false h2, Bool.and_false]; rfl))
            clear hb Hn1 Hn2
            go_wp2_with fail
            refine (HLk.out _).mono ?_
            rintro e w2 ⟨rfl, rfl⟩
            go_wp2_with fail
            go_roundw
            case rel => exact ⟨k + 1, by omega, by go_num, Hall.out, _, rfl⟩
            case measure => simp [intOf]; omega
        · have Hall := Lib.hid (Hn2.out (by unfold nameB; rw [hb, decide_eq_false h1]; rfl))
          clear hb Hn1 Hn2
          go_wp2_with fail
          refine (HLk.out _).mono ?_
          rintro e w2 ⟨rfl, rfl⟩
          go_wp2_with fail
          go_roundw
          case rel => exact ⟨k + 1, by omega, by go_num, Hall.out, _, rfl⟩
          case measure => simp [intOf]; omega
    · obtain rfl : k = s.size := by omega
      have Hf := Lib.hid (Hmk.out hall.out)
      clear hall
      go_wp2_with fail
      go_ret
      exact ⟨by rw [Hf.out]; rfl, _, rfl⟩
end Go.Proofs.YtjjffdhcapjhdaaDoor.lab
