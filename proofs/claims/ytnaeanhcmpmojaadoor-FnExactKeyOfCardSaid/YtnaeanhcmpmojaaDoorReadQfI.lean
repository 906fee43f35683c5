/- impl.ReadQuoted. -/
import Derived.Test.YtnaeanhcmpmojaaDoorReadQI
import Derived.Test.YtnaeanhcmpmojaaDoorIter
import Derived.Test.YtnaeanhcmpmojaaDoorByteInfo
import Derived.Lib.AppendStr
namespace Go.Proofs.YtnaeanhcmpmojaaDoor.readq
open Go.ChangeShapes Go.WideShapes Go.ChangeAt Go.RowKit
set_option linter.unusedVariables false

theorem istep_of {s : ByteArray} {p p0 : Nat} {l : List UInt8} (h : ¬ (p < s.size ∧ at_ s p = 34)) (hp : p ≤ s.size) (hr : readQ s p l = readQ s (p0 + 1) []) :
    ((stepF s p).2 < 0 ∧ readQ s (p0 + 1) [] = none) ∨ ∃ q : Nat, (stepF s p).2 = (q : Int) ∧ p < q ∧ q ≤ s.size ∧ 0 ≤ (stepF s p).1 ∧ (stepF s p).1 ≤ 1114111 ∧ readQ s q (l ++ (rune.textF (stepF s p).1).data.toList) = readQ s (p0 + 1) [] := by
  have h' : at_ s p ≠ 34 ∨ s.size ≤ p := by
    by_cases hlt : p < s.size
    · exact .inl (fun e => h ⟨hlt, e⟩)
    · exact .inr (by omega)
  rcases step_fine s p with hf | ⟨q, e, h4, h5, h6, h7⟩
  · exact .inl ⟨by omega, by rw [← hr]; exact read_bad h' (by omega)⟩
  · rcases h' with h' | h'
    · refine .inr ⟨q, e, h4, h5, h6, h7, ?_⟩
      rw [← hr]
      exact (read_go (by omega) h' (by rw [← e]) h4).symm
    · omega

set_option maxHeartbeats 4000000 in
set_option maxRecDepth 100000 in
theorem impl_in (s : ByteArray) (p0 : Nat) (w : World) (hs : s.size ≤ 1048576) (h0 : p0 < s.size) (h34 : at_ s p0 = 34) (hT : rune.Tabs w) (hE : ErrVar w "strconv.ErrSyntax") :
    Calls Tryd.prog 78 #[.string s, .int .i64 p0] w fun e w' => e = .returned (.tuple #[.string (quotedIn s p0).1, .int .i64 (quotedIn s p0).2]) ∧ Below w.heap.size w w' := by
  obtain ⟨i0, hi, hz0, hz1, hz2⟩ := info_parts binfo.Trydinfo
  have HP0 := Lib.hid (fun w => pre1 s p0 34 w)
  have ed0 : decide (p0 < s.size ∧ at_ s p0 = (((34 : UInt8).toNat : Nat) : Int)) = true := decide_eq_true ⟨h0, h34⟩
  simp only [ed0] at HP0
  have HT0 := Lib.hid hT
  have HE0 := Lib.hid hE
  have HY : Hid (∀ l q, some (l, q) = readQ s (p0 + 1) [] → quotedIn s p0 = (⟨l.toArray⟩, (q : Int))) := fun l q h => in_some h.symm
  have HN : Hid (readQ s (p0 + 1) [] = none → quotedIn s p0 = (⟨#[]⟩, -1)) := fun h => in_none h
  have hown1 : (w.alloc (.cells #[] 5)).ownsRow w.heap.size 5 1 (.slice (some ⟨w.heap.size, 0, none⟩) 0 0) 0 (bcells []) := World.ownsRow_lit w #[] 0 (Nat.le_refl _) (by simp [maxLen]) rfl
  have Hown := Lib.hid hown1
  have Hb := Lib.hid ((Below.refl w.heap.size w).alloc (Nat.le_refl _) (.cells #[] 5))
  clear hown1 hT hE h34 ed0
  have d0 : decide ((p0 : Int) < 0) = false := decide_eq_false (by omega)
  have d1 : decide ((s.size : Int) ≤ (p0 : Int)) = false := decide_eq_false (by omega)
  have d2 : decide (s.size ≤ p0) = false := decide_eq_false (by omega)
  go_enter Tryd.func78, Tryd.ntmps78
  go_wp2_with fail
  refine (HP0.out _).mono ?_
  rintro e w1 ⟨rfl, rfl⟩
  clear HP0
  go_wp2_with fail
  go_loopw [1, 6] (fun i v wr => ∃ (p m : Nat) (l : List UInt8), i = .int .i64 p ∧ p ≤ s.size ∧ m ≤ 4 * p ∧ l.length = m ∧ Hid (readQ s p l = readQ s (p0 + 1) []) ∧ wr.ownsRow w.heap.size 5 1 v m (bcells l) ∧ Below w.heap.size w wr) (fun i _ _ => s.size - (intOf i).toNat)
  case atStart => exact ⟨p0 + 1, 0, [], by go_num, by omega, by omega, rfl, rfl, Hown.out, Hb.out⟩
  case round =>
    clear Hown Hb
    obtain ⟨p, m, l, rfl, hp, hm, hlen, hr, hown, hbel⟩ := hrel
    have HP := Lib.hid (fun w => pre1 s p 34 w)
    by_cases c34 : p < s.size ∧ at_ s p = 34
    · have ed : decide (p < s.size ∧ at_ s p = (((34 : UInt8).toNat : Nat) : Int)) = true := decide_eq_true c34
      simp only [ed] at HP
      have HR := Lib.hid (HY.out l (p + 1) ((read_close c34.1 c34.2).symm.trans hr.out))
      have hconv := binfo.conv hlen hown
      have Hbel := Lib.hid hbel
      clear hown hbel hr hlen c34 ed
      go_wp2_with fail
      refine (HP.out _).mono ?_
      rintro e w1 ⟨rfl, rfl⟩
      go_wp2_with fail
      go_ret2
      exact ⟨by rw [HR.out]; rfl, Hbel.out⟩
    · have ed : decide (p < s.size ∧ at_ s p = (((34 : UInt8).toNat : Nat) : Int)) = false := decide_eq_false c34
      simp only [ed] at HP
      have HS := Lib.hid (istep_of c34 hp hr.out)
      have HQ := Lib.hid (qr_any s p wr hs hp (HT0.out.below hbel) (HE0.out.below hbel))
      have Hlen := Lib.hid hlen
      generalize stepF s p = r at HQ HS
      clear hr c34 hlen ed
      obtain ⟨x, y⟩ := r
      rcases HS.out with ⟨hy, hn⟩ | ⟨q, hy, hpq, hqs, hx0, hx1, hnext⟩
      · have hy' : y < 0 := hy
        have HR := Lib.hid (HN.out hn)
        clear HS hn hy hown
        go_wp2_with fail
        refine (HP.out _).mono ?_
        rintro e w1 ⟨rfl, rfl⟩
        clear HP
        go_wp2_with fail
        refine HQ.out.mono ?_
        rintro e w2 ⟨rfl, hb2⟩
        have hbel2 := hbel.trans (hb2.mono hbel.size)
        clear HQ hbel hb2
        go_wp2_with fail
        go_ret2
        exact ⟨by rw [HR.out]; rfl, hbel2⟩
      · obtain rfl : y = (q : Int) := hy
        have Hn := Lib.hid hnext
        have HT := Lib.hid (fun w => rune.impl_text x w)
        have h4 := rune.text_le x
        clear HS hnext
        go_wp2_with fail
        refine (HP.out _).mono ?_
        rintro e w1 ⟨rfl, rfl⟩
        clear HP
        go_wp2_with fail
        refine HQ.out.mono ?_
        rintro e w1 ⟨rfl, hb1⟩
        have hown2 := own_below hown hb1
        have hbel2 := hbel.trans (hb1.mono hbel.size)
        clear HQ hown hbel hb1
        go_wp2_with fail
        refine (HT.out _).mono ?_
        rintro e w2 ⟨rfl, rfl⟩
        clear HT
        have Hn2 : Hid (readQ s q (l ++ (rune.textF x).data.toList) = readQ s (p0 + 1) []) := Hn.out
        clear Hn hx0 hx1
        generalize rune.textF x = t at Hn2 h4
        go_wp2_with (first | (at_builtin; refine Lib.wpList_append_own_string _ rfl (.tmp 40) (.tmp 42) 22 9 rfl w.heap.size 5 i0 Tryd.underlying22 Tryd.underlying9 hi hz0 hz1 hz2 _ m _ rfl hown2 t rfl (by unfold maxLen; omega) (by omega) (by have := hbel2.size; omega) ?_) | fail)
        intro v3 w3 hown3 hg3 _
        have hbel3 : Below w.heap.size w w3 := hbel2.grown hg3 (by have := hbel2.size; omega) (fun b hb => (hown2.lt b hb).1)
        rw [show Lib.strCells t = bcells t.data.toList from rfl, ← bcells_append] at hown3
        clear hown2 hbel2 hg3
        go_wp2_with fail
        go_roundw
        case rel => exact ⟨q, m + t.size, l ++ t.data.toList, rfl, hqs, by omega, by rw [List.length_append, Hlen.out]; simp, Hn2.out, hown3, hbel3⟩
        case measure => simp [intOf]; omega
theorem impl_readq (s : ByteArray) (a : Int) (w : World) (hs : s.size ≤ 1048576) (ha0 : -9223372036854775808 ≤ a) (ha1 : a ≤ 9223372036854775807) (hT : rune.Tabs w) (hE : ErrVar w "strconv.ErrSyntax") :
    Calls Tryd.prog 78 #[.string s, .int .i64 a] w fun e w' => e = .returned (.tuple #[.string (readF s a).1, .int .i64 (readF s a).2]) ∧ Below w.heap.size w w' := by
  by_cases h : 0 ≤ a ∧ a < s.size
  · obtain ⟨p, rfl⟩ := Int.eq_ofNat_of_zero_le h.1
    by_cases c : at_ s p = 34
    · rw [readF_yes (by omega) c]
      exact impl_in s p w hs (by omega) c hT hE
    · rw [readF_no (fun hc => c (by simpa using hc.2.2))]
      have HP := Lib.hid (fun w => pre1 s p 34 w)
      have ed : decide (p < s.size ∧ at_ s p = (((34 : UInt8).toNat : Nat) : Int)) = false := decide_eq_false (fun hc => c hc.2)
      simp only [ed] at HP
      have hlt : p < s.size := by omega
      clear hT hE
      go_enter Tryd.func78, Tryd.ntmps78
      go_wp2_with fail
      refine (HP.out _).mono ?_
      rintro e w1 ⟨rfl, rfl⟩
      go_wp2_with fail
      go_ret2
      exact ⟨rfl, Below.refl _ _⟩
  · rw [readF_no (fun hc => h ⟨hc.1, hc.2.1⟩)]
    clear hT hE
    rcases (by omega : a < 0 ∨ (s.size : Int) ≤ a) with c | c
    all_goals
      go_enter Tryd.func78, Tryd.ntmps78
      go_wp2_with fail
      go_ret2
      exact ⟨rfl, Below.refl _ _⟩
end Go.Proofs.YtnaeanhcmpmojaaDoor.readq
