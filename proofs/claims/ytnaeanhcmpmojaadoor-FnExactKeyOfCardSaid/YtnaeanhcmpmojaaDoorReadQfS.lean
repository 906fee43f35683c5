/- spec.ReadQuoted. -/
import Derived.Test.YtnaeanhcmpmojaaDoorReadQS
import Derived.Test.YtnaeanhcmpmojaaDoorRnAtS
import Derived.Test.YtnaeanhcmpmojaaDoorRnS
import Derived.Test.YtnaeanhcmpmojaaDoorIter
import Derived.Test.YtnaeanhcmpmojaaDoorByteInfo
import Derived.Lib.AppendStr
namespace Go.Proofs.YtnaeanhcmpmojaaDoor.readq
open Go.ChangeShapes Go.WideShapes Go.ChangeAt Go.RowKit
set_option linter.unusedVariables false

theorem sfun : Tryd.prog.underlying 9 = some .string := Tryd.underlying9
/-- A step and what follows it. -/
def Step (s : ByteArray) (p p0 : Nat) (l : List UInt8) (r : Int × Int) : Prop :=
  (r.2 < 0 ∧ readQ s (p0 + 1) [] = none) ∨ ∃ q : Nat, r.2 = (q : Int) ∧ p < q ∧ q ≤ s.size ∧ 0 ≤ r.1 ∧ r.1 ≤ 1114111 ∧ readQ s q (l ++ (rune.textF r.1).data.toList) = readQ s (p0 + 1) []
theorem step_of {s : ByteArray} {p p0 : Nat} {l : List UInt8} (h : at_ s p ≠ 34 ∨ s.size ≤ p) (hr : readQ s p l = readQ s (p0 + 1) []) : Step s p p0 l (stepF s p) := by
  rcases step_fine s p with hf | ⟨q, e, h4, h5, h6, h7⟩
  · exact .inl ⟨by omega, by rw [← hr]; exact read_bad h (by omega)⟩
  · rcases h with h | h
    · refine .inr ⟨q, e, h4, h5, h6, h7, ?_⟩
      rw [← hr]
      exact (read_go (by omega) h (by rw [← e]) h4).symm
    · omega

set_option maxHeartbeats 4000000 in
set_option maxRecDepth 100000 in
theorem spec_in (s : ByteArray) (p0 : Nat) (w : World) (hs : s.size ≤ 1048576) (h0 : p0 < s.size) (h34 : at_ s p0 = 34) :
    Calls Tryd.prog 42 #[.string s, .int .i64 p0] w fun e w' => e = .returned (.tuple #[.string (quotedIn s p0).1, .int .i64 (quotedIn s p0).2]) ∧ Below w.heap.size w w' := by
  obtain ⟨i0, hi, hz0, hz1, hz2⟩ := info_parts binfo.Trydinfo
  have eat := at_eq s p0 h0
  rw [h34] at eat
  have HJ := Lib.hid (fun w => arith.in_yes p0 0 ((s.size : Int) - 1) w (by omega) (by omega))
  have HY : Hid (∀ l q, some (l, q) = readQ s (p0 + 1) [] → quotedIn s p0 = (⟨l.toArray⟩, (q : Int))) := fun l q h => in_some h.symm
  have HN : Hid (readQ s (p0 + 1) [] = none → quotedIn s p0 = (⟨#[]⟩, -1)) := fun h => in_none h
  have hown1 : (w.alloc (.cells #[] 5)).ownsRow w.heap.size 5 1 (.slice (some ⟨w.heap.size, 0, none⟩) 0 0) 0 (bcells []) := World.ownsRow_lit w #[] 0 (Nat.le_refl _) (by simp [maxLen]) rfl
  have Hown := Lib.hid hown1
  have Hb := Lib.hid ((Below.refl w.heap.size w).alloc (Nat.le_refl _) (.cells #[] 5))
  clear hown1
  go_enter Tryd.func42, Tryd.ntmps42
  go_wp2_with fail
  refine (HJ.out _).mono ?_
  rintro e w1 ⟨rfl, rfl⟩
  go_wp2_with fail
  clear eat h34 HJ
  go_loopw [1, 6] (fun i v wr => ∃ (p m : Nat) (l : List UInt8), i = .int .i64 p ∧ p ≤ s.size ∧ m ≤ 4 * p ∧ l.length = m ∧ Hid (readQ s p l = readQ s (p0 + 1) []) ∧ wr.ownsRow w.heap.size 5 1 v m (bcells l) ∧ Below w.heap.size w wr) (fun i _ _ => s.size - (intOf i).toNat)
  case atStart => exact ⟨p0 + 1, 0, [], by go_num, by omega, by omega, rfl, rfl, Hown.out, Hb.out⟩
  case round =>
    clear Hown Hb
    obtain ⟨p, m, l, rfl, hp, hm, hlen, hr, hown, hbel⟩ := hrel
    by_cases hlt : p < s.size
    · have eat := at_eq s p hlt
      have hbd := at_bd s p
      by_cases c34 : at_ s p = 34
      · rw [c34] at eat
        have HR := Lib.hid (HY.out l (p + 1) ((read_close hlt c34).symm.trans hr.out))
        have hconv := binfo.conv hlen hown
        have Hbel := Lib.hid hbel
        clear hown hbel hr hlen hbd c34
        go_wp2_with fail
        go_ret2
        exact ⟨by rw [HR.out]; rfl, Hbel.out⟩
      have HS := Lib.hid (step_of (.inl c34) hr.out)
      have e34 : (at_ s p == 34) = false := by simpa using c34
      by_cases c92 : at_ s p = 92
      · have HE := Lib.hid (fun a ha w => spec_escI s a (p + 1) ha w hs (by omega))
        have es : stepF s p = escF s (p + 1) := by unfold stepF; rw [if_pos ⟨hlt, c92⟩]
        rw [es] at HS
        rw [c92] at eat e34
        have Hlen := Lib.hid hlen
        generalize escF s (p + 1) = r at HE HS
        clear es hr c34 c92 hbd hlen
        obtain ⟨x, y⟩ := r
        rcases HS.out with ⟨hy, hn⟩ | ⟨q, hy, hpq, hqs, hx0, hx1, hnext⟩
        · have hy' : y < 0 := hy
          have HR := Lib.hid (HN.out hn)
          clear HS hn hy hown
          go_wp2_with fail
          refine (HE.out _ (by omega) _).mono ?_
          rintro e w2 ⟨rfl, rfl⟩
          go_wp2_with fail
          go_ret2
          exact ⟨by rw [HR.out]; rfl, hbel⟩
        · obtain rfl : y = (q : Int) := hy
          have Hn := Lib.hid hnext
          have HT := Lib.hid (fun w => rune.spec_text x w (by have : 0 ≤ x := hx0; omega) (by have : x ≤ 1114111 := hx1; omega))
          have h4 := rune.text_le x
          clear HS hnext hx0 hx1
          go_wp2_with fail
          refine (HE.out _ (by omega) _).mono ?_
          rintro e w2 ⟨rfl, rfl⟩
          clear HE
          go_wp2_with fail
          refine (HT.out _).mono ?_
          rintro e w2 ⟨rfl, hb2⟩
          clear HT
          have Hn2 : Hid (readQ s q (l ++ (rune.textF x).data.toList) = readQ s (p0 + 1) []) := Hn.out
          generalize rune.textF x = t at Hn2 h4
          have hown2 := own_below hown hb2
          have hbel2 := hbel.trans (hb2.mono hbel.size)
          clear hown hbel hb2 Hn
          go_wp2_with (first | (at_builtin; refine Lib.wpList_append_own_string _ rfl (.tmp 57) (.tmp 59) 22 9 rfl w.heap.size 5 i0 Tryd.underlying22 Tryd.underlying9 hi hz0 hz1 hz2 _ m _ rfl hown2 t rfl (by unfold maxLen; omega) (by omega) (by have := hbel2.size; omega) ?_) | fail)
          intro v3 w3 hown3 hg3 _
          have hbel3 : Below w.heap.size w w3 := hbel2.grown hg3 (by have := hbel2.size; omega) (fun b hb => (hown2.lt b hb).1)
          rw [show Lib.strCells t = bcells t.data.toList from rfl, ← bcells_append] at hown3
          clear hown2 hbel2 hg3
          go_wp2_with fail
          go_roundw
          case rel => exact ⟨q, m + t.size, l ++ t.data.toList, rfl, hqs, by omega, by rw [List.length_append, Hlen.out]; simp, Hn2.out, hown3, hbel3⟩
          case measure => simp [intOf]; omega
      · have HA := Lib.hid (fun w => rune.spec_at s p w (by unfold maxLen; omega))
        unfold rune.AtRes at HA
        have es : stepF s p = runeF s p := by unfold stepF; rw [if_neg (fun h => c92 h.2)]
        rw [es] at HS
        unfold runeF at HS
        have e92 : (at_ s p == 92) = false := by simpa using c92
        have Hlen := Lib.hid hlen
        generalize rune.atF s (p : Int) = r at HA HS
        clear es hr c34 c92 hlen
        obtain ⟨x, y⟩ := r
        by_cases c32 : x < 32
        · have HR : Hid (quotedIn s p0 = (⟨#[]⟩, -1)) := by
            have h := HS.out
            simp only [if_pos c32] at h
            rcases h with ⟨_, hn⟩ | ⟨q, hy, _⟩
            · exact HN.out hn
            · simp only at hy
              omega
          clear HS hown
          go_wp2_with fail
          refine (HA.out _).mono ?_
          rintro e w2 ⟨rfl, hb2⟩
          have hbel2 := hbel.trans (hb2.mono hbel.size)
          go_wp2_with fail
          go_ret2
          exact ⟨by rw [HR.out]; rfl, hbel2⟩
        · have h := HS.out
          simp only [if_neg c32] at h
          clear HS
          rcases h with ⟨hy, hn⟩ | ⟨q, hy, hpq, hqs, hx0, hx1, hnext⟩
          · have HR := Lib.hid (HN.out hn)
            clear hn hown
            go_wp2_with fail
            refine (HA.out _).mono ?_
            rintro e w2 ⟨rfl, hb2⟩
            have hbel2 := hbel.trans (hb2.mono hbel.size)
            go_wp2_with fail
            go_ret2
            exact ⟨by rw [HR.out]; rfl, hbel2⟩
          · subst hy
            have Hn := Lib.hid hnext
            have HT := Lib.hid (fun w => rune.spec_text x w (by omega) (by omega))
            have h4 := rune.text_le x
            clear hnext
            go_wp2_with fail
            refine (HA.out _).mono ?_
            rintro e w1 ⟨rfl, hb1⟩
            have hown1 := own_below hown hb1
            have hbel1 := hbel.trans (hb1.mono hbel.size)
            clear HA hown hbel hb1
            go_wp2_with fail
            refine (HT.out _).mono ?_
            rintro e w2 ⟨rfl, hb2⟩
            clear HT
            have Hn2 : Hid (readQ s q (l ++ (rune.textF x).data.toList) = readQ s (p0 + 1) []) := Hn.out
            generalize rune.textF x = t at Hn2 h4
            have hown2 := own_below hown1 hb2
            have hbel2 := hbel1.trans (hb2.mono hbel1.size)
            clear hown1 hbel1 hb2 Hn
            go_wp2_with (first | (at_builtin; refine Lib.wpList_append_own_string _ rfl (.tmp 57) (.tmp 59) 22 9 rfl w.heap.size 5 i0 Tryd.underlying22 Tryd.underlying9 hi hz0 hz1 hz2 _ m _ rfl hown2 t rfl (by unfold maxLen; omega) (by omega) (by have := hbel2.size; omega) ?_) | fail)
            intro v3 w3 hown3 hg3 _
            have hbel3 : Below w.heap.size w w3 := hbel2.grown hg3 (by have := hbel2.size; omega) (fun b hb => (hown2.lt b hb).1)
            rw [show Lib.strCells t = bcells t.data.toList from rfl, ← bcells_append] at hown3
            clear hown2 hbel2 hg3
            go_wp2_with fail
            go_roundw
            case rel => exact ⟨q, m + t.size, l ++ t.data.toList, rfl, hqs, by omega, by rw [List.length_append, Hlen.out]; simp, Hn2.out, hown3, hbel3⟩
            case measure => simp [intOf]; omega
    · have HR := Lib.hid (HN.out ((read_end (l := l) (by omega)).symm.trans hr.out).symm)
      clear hr hown
      go_wp2_with fail
      go_ret2
      exact ⟨by rw [HR.out]; rfl, hbel⟩
theorem spec_readq (s : ByteArray) (a : Int) (w : World) (hs : s.size ≤ 1048576) (ha0 : -9223372036854775808 ≤ a) (ha1 : a ≤ 9223372036854775807) :
    Calls Tryd.prog 42 #[.string s, .int .i64 a] w fun e w' => e = .returned (.tuple #[.string (readF s a).1, .int .i64 (readF s a).2]) ∧ Below w.heap.size w w' := by
  by_cases h : 0 ≤ a ∧ a < s.size
  · obtain ⟨p, rfl⟩ := Int.eq_ofNat_of_zero_le h.1
    by_cases c : at_ s p = 34
    · rw [readF_yes (by omega) c]
      exact spec_in s p w hs (by omega) c
    · rw [readF_no (fun hc => c (by simpa using hc.2.2))]
      have eat := at_eq s p (by omega)
      have e34 : (at_ s p == 34) = false := by simpa using c
      have HJ := Lib.hid (fun w => arith.in_yes p 0 ((s.size : Int) - 1) w (by omega) (by omega))
      have hlt : p < s.size := by omega
      go_enter Tryd.func42, Tryd.ntmps42
      go_wp2_with fail
      refine (HJ.out _).mono ?_
      rintro e w1 ⟨rfl, rfl⟩
      go_wp2_with fail
      go_ret2
      exact ⟨rfl, Below.refl _ _⟩
  · rw [readF_no (fun hc => h ⟨hc.1, hc.2.1⟩)]
    have HJ := Lib.hid (fun w => arith.in_no a 0 ((s.size : Int) - 1) w (by omega))
    go_enter Tryd.func42, Tryd.ntmps42
    go_wp2_with fail
    refine (HJ.out _).mono ?_
    rintro e w1 ⟨rfl, rfl⟩
    go_wp2_with fail
    go_ret2
    exact ⟨rfl, Below.refl _ _⟩
end Go.Proofs.YtnaeanhcmpmojaaDoor.readq
