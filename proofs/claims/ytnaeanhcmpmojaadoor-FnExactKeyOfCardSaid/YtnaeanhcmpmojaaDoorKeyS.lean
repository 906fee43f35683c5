/- spec.KeyOf. -/
import Derived.Test.YtnaeanhcmpmojaaDoorPlainS
import Derived.Test.YtnaeanhcmpmojaaDoorIndS
import Derived.Test.YtnaeanhcmpmojaaDoorReadQfS
namespace Go.Proofs.YtnaeanhcmpmojaaDoor.line
open Go.ChangeShapes Go.WideShapes Go.ChangeAt Go.RowKit
set_option linter.unusedVariables false

/-- What is left behind the key. -/
def restOf (s : ByteArray) (n : Nat) : ByteArray := trimL (s.extract (n + 1) s.size)
theorem key_yes {s : ByteArray} {k : ByteArray} {n : Nat} (h : keyIn s = (k, (n : Int))) (he : ends s n) : keyOf s = (k, restOf s n, true) := by
  unfold keyOf restOf
  rw [h]
  simp only [Int.toNat_natCast]
  rw [if_pos ⟨by omega, he⟩]
theorem key_no {s : ByteArray} (h : ¬ (0 ≤ (keyIn s).2 ∧ ends s (keyIn s).2.toNat)) : keyOf s = (⟨#[]⟩, ⟨#[]⟩, false) := if_neg h
theorem keyIn_quoted {s : ByteArray} (h : 0 < s.size ∧ at_ s 0 = 34) : keyIn s = readq.readF s 0 := if_pos h
theorem keyIn_plain {s : ByteArray} (h : ¬ (0 < s.size ∧ at_ s 0 = 34)) {n : Nat} (h2 : ke s = (n : Int)) (h3 : plainF (s.extract 0 n) = true) : keyIn s = (s.extract 0 n, (n : Int)) := by
  unfold keyIn
  rw [if_neg h, h2]
  simp only [Int.toNat_natCast]
  rw [if_pos ⟨by omega, h3⟩]
theorem keyIn_none {s : ByteArray} (h : ¬ (0 < s.size ∧ at_ s 0 = 34)) (h2 : ke s < 0 ∨ plainF (s.extract 0 (ke s).toNat) = false) : keyIn s = (⟨#[]⟩, -1) := by
  unfold keyIn
  rw [if_neg h, if_neg]
  rintro ⟨h3, h4⟩
  rcases h2 with h2 | h2
  · omega
  · rw [h4] at h2; cases h2
set_option maxHeartbeats 4000000 in
set_option maxRecDepth 100000 in
theorem spec_key (s : ByteArray) (w : World) (hs : s.size ≤ 1048576) :
    Calls Tryd.prog 23 #[.string s] w fun e w' => e = .returned (.tuple #[.string (keyOf s).1, .string (keyOf s).2.1, .bool (keyOf s).2.2]) ∧ Below w.heap.size w w' := by
  obtain ⟨R, hR⟩ : ∃ R, keyOf s = R := ⟨_, rfl⟩
  rw [hR]
  have HR := Lib.hid hR
  clear hR
  have hrest : ∀ n, n < s.size → ∃ t : ByteArray, s.extract (n + 1) s.size = t ∧ t.size ≤ s.size ∧ ind t ≤ t.size ∧ Hid (∀ w, Calls Tryd.prog 17 #[.string t] w fun e w' => e = .returned (.int .i64 (ind t)) ∧ w = w') := fun n hn => by
    have hz := size_ex s (n + 1) s.size (Nat.le_refl _)
    exact ⟨_, rfl, by omega, ind_le _, fun w => spec_ind _ w (by rw [hz]; unfold maxLen; omega)⟩
  by_cases c0 : 0 < s.size ∧ at_ s 0 = 34
  · have HQ := Lib.hid (readq.spec_readq s 0 w hs (by omega) (by omega))
    have hbd := readq.readF_bd s 0
    have hki := keyIn_quoted c0
    obtain ⟨h0, h34⟩ := c0
    have hat := at_eq s 0 h0
    rw [h34] at hat
    rw [← hki] at HQ hbd
    clear hki h34
    by_cases c1 : 0 ≤ (keyIn s).2 ∧ ends s (keyIn s).2.toNat
    · obtain ⟨k, hk⟩ : ∃ k, (keyIn s).1 = k := ⟨_, rfl⟩
      obtain ⟨n, hn⟩ : ∃ n : Nat, (keyIn s).2 = (n : Int) := Int.eq_ofNat_of_zero_le c1.1
      have he : ends s n := by have := c1.2; rw [hn, Int.toNat_natCast] at this; exact this
      have HK0 : Hid (R = (k, restOf s n, true)) := by unfold Hid; rw [← HR.out]; exact key_yes (by rw [← hk, ← hn]) he
      rw [hk, hn] at HQ
      have hlt := he.1
      have HE := Lib.hid (fun w => spec_ends s n w hs hlt)
      rw [decide_eq_true he] at HE
      obtain ⟨t, ht, htz, hti, HI⟩ := hrest n hlt
      have Ht := Lib.hid ht
      have HK := HK0
      have hnn : (0 : Int) ≤ (n : Int) := by omega
      generalize hi : ind t = i at HI hti
      have Hi := Lib.hid hi
      clear HR hbd c1 he hk hn hrest HK0 hi
      go_enter Tryd.func23, Tryd.ntmps23
      go_wp2_with fail
      refine HQ.out.mono ?_
      rintro e w1 ⟨rfl, hb1⟩
      clear HQ
      have Hb1 := Lib.hid hb1
      clear hb1
      go_wp2_with fail
      refine (HE.out _).mono ?_
      rintro e w2 ⟨rfl, rfl⟩
      clear HE
      have Hb := Hb1
      go_wp2_with fail
      go_quiet ((go_at_call 17; exact Calls.quiet_of_same ((HI.out _).mono fun _ _ h => ⟨h.1, h.2.symm⟩)))
      go_wp2_with fail
      go_ret3
      exact ⟨by rw [HK.out]; unfold restOf trimL; rw [Ht.out, Hi.out]; rfl, below_drewN Hb.out _⟩
    · have HK : Hid (R = (⟨#[]⟩, ⟨#[]⟩, false)) := by unfold Hid; rw [← HR.out]; exact key_no c1
      rcases hbd with hbd | ⟨q, hq, _, hqs⟩
      · rw [hbd] at HQ
        clear HR c1 hbd hrest
        go_enter Tryd.func23, Tryd.ntmps23
        go_wp2_with fail
        refine HQ.out.mono ?_
        rintro e w1 ⟨rfl, hb1⟩
        clear HQ
        go_wp2_with fail
        go_ret3
        exact ⟨by rw [HK.out]; rfl, hb1⟩
      · have hne : ¬ ends s q := fun h => c1 ⟨by omega, by rw [hq, Int.toNat_natCast]; exact h⟩
        obtain ⟨k, hk⟩ : ∃ k, (keyIn s).1 = k := ⟨_, rfl⟩
        rw [hk, hq] at HQ
        have hqq : (0 : Int) ≤ (q : Int) := by omega
        clear HR c1 hrest hk hq
        by_cases hlt : q < s.size
        · have HE := Lib.hid (fun w => spec_ends s q w hs hlt)
          rw [decide_eq_false hne] at HE
          clear hne
          go_enter Tryd.func23, Tryd.ntmps23
          go_wp2_with fail
          refine HQ.out.mono ?_
          rintro e w1 ⟨rfl, hb1⟩
          clear HQ
          go_wp2_with fail
          refine (HE.out _).mono ?_
          rintro e w2 ⟨rfl, rfl⟩
          clear HE
          go_wp2_with fail
          go_ret3
          exact ⟨by rw [HK.out]; rfl, hb1⟩
        · clear hne
          go_enter Tryd.func23, Tryd.ntmps23
          go_wp2_with fail
          refine HQ.out.mono ?_
          rintro e w1 ⟨rfl, hb1⟩
          clear HQ
          go_wp2_with fail
          go_ret3
          exact ⟨by rw [HK.out]; rfl, hb1⟩
  · have hnone : ke s < 0 ∨ plainF (s.extract 0 (ke s).toNat) = false → Hid (R = (⟨#[]⟩, ⟨#[]⟩, false)) := fun h => by
      unfold Hid
      rw [← HR.out]
      exact key_no (by rw [keyIn_none c0 h]; rintro ⟨h1, _⟩; exact absurd h1 (by decide))
    have hsome : ∀ n : Nat, ke s = (n : Int) → ends s n → plainF (s.extract 0 n) = true → Hid (R = (s.extract 0 n, restOf s n, true)) := fun n h1 h2 h3 => by
      unfold Hid
      rw [← HR.out]
      exact key_yes (keyIn_plain c0 h1 h3) h2
    have HE := Lib.hid (fun i w hlt => spec_ends s i w hs hlt)
    have c0' : s.size = 0 ∨ (0 < s.size ∧ (at_ s 0 == 34) = false) := by
      by_cases h0 : 0 < s.size
      · exact .inr ⟨h0, beq_eq_false_iff_ne.2 (fun h => c0 ⟨h0, h⟩)⟩
      · exact .inl (by omega)
    clear HR c0
    rcases c0' with c0 | ⟨c0, e34⟩
    · have HK := hnone (.inl (by rw [ke_no (fun j h => by have := h.1; omega)]; decide))
      clear hnone hsome HE hrest
      go_enter Tryd.func23, Tryd.ntmps23
      go_wp2_with fail
      go_loopw [5, 6, 9] (fun k a i wr => k = .string ⟨#[]⟩ ∧ a = .int .i64 (-1) ∧ i = .int .i64 0 ∧ wr = w) (fun _ _ _ _ => 0)
      case atStart => exact ⟨rfl, rfl, rfl, rfl⟩
      case round =>
        obtain ⟨rfl, rfl, rfl, rfl⟩ := hrel
        go_wp2_with fail
        go_ret3
        exact ⟨by rw [HK.out]; rfl, Below.refl _ _⟩
    have hat := at_eq s 0 c0
    go_enter Tryd.func23, Tryd.ntmps23
    go_wp2_with fail
    clear hat e34
    go_loopw [5, 6, 9] (fun k a i wr => ∃ m : Nat, i = .int .i64 m ∧ m ≤ s.size ∧ wr = w ∧ ((k = .string ⟨#[]⟩ ∧ a = .int .i64 (-1) ∧ Hid (∀ j, j < m → ¬ ends s j)) ∨ (∃ n : Nat, k = .string (s.extract 0 n) ∧ a = .int .i64 n ∧ n < s.size ∧ Hid (ends s n ∧ ke s = (n : Int))))) (fun k a i _ => s.size - (intOf i).toNat)
    case atStart => exact ⟨0, rfl, Nat.zero_le _, rfl, .inl ⟨rfl, rfl, fun j h => absurd h (Nat.not_lt_zero j)⟩⟩
    case round =>
      obtain ⟨m, rfl, hm, rfl, hcase⟩ := hrel
      rcases hcase with ⟨rfl, rfl, hno⟩ | ⟨n, rfl, rfl, hn, hke⟩
      · by_cases hlt : m < s.size
        · have HEm := Lib.hid (fun w => HE.out m w hlt)
          by_cases he : ends s m
          · rw [decide_eq_true he] at HEm
            have Hk : Hid (ends s m ∧ ke s = (m : Int)) := ⟨he, ke_yes he hno.out⟩
            clear he hno hnone hsome hrest
            go_wp2_with fail
            refine (HEm.out _).mono ?_
            rintro e w2 ⟨rfl, rfl⟩
            clear HEm
            go_wp2_with fail
            go_roundw
            case rel => exact ⟨m + 1, by go_num, by omega, trivial, .inr ⟨m, rfl, rfl, hlt, Hk⟩⟩
            case measure => simp [intOf]; omega
          · rw [decide_eq_false he] at HEm
            have Hn : Hid (∀ j, j < m + 1 → ¬ ends s j) := fun j hj => by
              by_cases e : j = m
              · rw [e]; exact he
              · exact hno.out j (by omega)
            clear he hno hnone hsome hrest
            go_wp2_with fail
            refine (HEm.out _).mono ?_
            rintro e w2 ⟨rfl, rfl⟩
            clear HEm
            go_wp2_with fail
            go_roundw
            case rel => exact ⟨m + 1, by go_num, by omega, trivial, .inl ⟨rfl, rfl, Hn⟩⟩
            case measure => simp [intOf]; omega
        · have HK := hnone (.inl (by rw [ke_no (fun j h => hno.out j (by have := h.1; omega) h)]; decide))
          clear hnone hsome hno hrest HE
          go_wp2_with fail
          go_ret3
          exact ⟨by rw [HK.out]; rfl, Below.refl _ _⟩
      · have HP := Lib.hid (fun w => spec_plain (s.extract 0 n) w (by rw [size_ex _ _ _ (by omega)]; omega))
        have hnn : ¬ (n : Int) < 0 := by omega
        have hnn2 : (0 : Int) ≤ (n : Int) := by omega
        have hlt := hn
        cases hp : plainF (s.extract 0 n) with
        | true =>
          rw [hp] at HP
          have HK := hsome n hke.out.2 hke.out.1 hp
          obtain ⟨t, ht, htz, hti, HI⟩ := hrest n hn
          have Ht := Lib.hid ht
          generalize hi : ind t = i at HI hti
          have Hi := Lib.hid hi
          clear hp hke hnone hsome hrest HE hi
          rcases Nat.lt_or_ge m s.size with h3 | h3
          · go_wp2_with fail
            refine (HP.out _).mono ?_
            rintro e w2 ⟨rfl, hb⟩
            clear HP
            have Hb := Lib.hid hb
            clear hb
            go_wp2_with fail
            go_quiet ((go_at_call 17; exact Calls.quiet_of_same ((HI.out _).mono fun _ _ h => ⟨h.1, h.2.symm⟩)))
            go_wp2_with fail
            go_ret3
            exact ⟨by rw [HK.out]; unfold restOf trimL; rw [Ht.out, Hi.out]; rfl, below_drewN Hb.out _⟩
          · go_wp2_with fail
            refine (HP.out _).mono ?_
            rintro e w2 ⟨rfl, hb⟩
            clear HP
            have Hb := Lib.hid hb
            clear hb
            go_wp2_with fail
            go_quiet ((go_at_call 17; exact Calls.quiet_of_same ((HI.out _).mono fun _ _ h => ⟨h.1, h.2.symm⟩)))
            go_wp2_with fail
            go_ret3
            exact ⟨by rw [HK.out]; unfold restOf trimL; rw [Ht.out, Hi.out]; rfl, below_drewN Hb.out _⟩
        | false =>
          rw [hp] at HP
          have HK := hnone (.inr (by rw [hke.out.2, Int.toNat_natCast]; exact hp))
          clear hp hke hnone hsome hrest HE
          rcases Nat.lt_or_ge m s.size with h3 | h3
          · go_wp2_with fail
            refine (HP.out _).mono ?_
            rintro e w2 ⟨rfl, hb⟩
            clear HP
            go_wp2_with fail
            go_ret3
            exact ⟨by rw [HK.out]; rfl, hb⟩
          · go_wp2_with fail
            refine (HP.out _).mono ?_
            rintro e w2 ⟨rfl, hb⟩
            clear HP
            go_wp2_with fail
            go_ret3
            exact ⟨by rw [HK.out]; rfl, hb⟩
end Go.Proofs.YtnaeanhcmpmojaaDoor.line
