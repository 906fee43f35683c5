/- FnQuoted: for every byte slice the law returns true. -/
import Derived.Test.YtamlkieeiflgkaaDoorDrawWord
import Derived.Test.YtamlkieeiflgkaaDoorQuoteI
import Derived.Test.YtamlkieeiflgkaaDoorQuoteBack
import Derived.Test.YtamlkieeiflgkaaDoorReadQfI
import Derived.Test.YtamlkieeiflgkaaDoorRnsS
import Derived.Test.YtamlkieeiflgkaaDoorBigL
namespace Go.Proofs.YtamlkieeiflgkaaDoor.fnQuoted
open Go.ChangeShapes Go.WideShapes Go.ChangeAt Go.RowKit
set_option linter.unusedVariables false

theorem byB_le (l : List UInt8) : (quote.byB l).length ≤ 6 * l.length := by
  induction l with
  | nil => exact Nat.le_refl _
  | cons b l ih =>
    have h := quote.qB_le b
    unfold quote.byB at ih ⊢
    rw [List.flatMap_cons, List.length_append, List.length_cons]
    omega
set_option maxRecDepth 100000 in
set_option maxHeartbeats 4000000 in
theorem walk (A : Option Addr) (len cap : Nat) (zs : List Int) (W : World) (hr : IsRow .u8 W A len cap zs) (hT : rune.Tabs W) (hE : readq.ErrVar W "strconv.ErrSyntax") :
    Calls Tryd.prog 8 #[.slice A len cap] W fun e w' => e = .returned (.bool true) ∧ Below W.heap.size W w' := by
  have hm := hr.le
  have hB := Lib.hid (lawBig.any A len cap W hm)
  unfold maxLen at hm
  by_cases h1 : 1048576 < len
  · clear hr hT hE
    go_enter Tryd.func8, Tryd.ntmps8
    go_wp2_with fail
    refine hB.out.mono ?_
    rintro e w1 ⟨rfl, rfl⟩
    go_wp2_with fail
    go_ret
    exact ⟨rfl, Below.refl _ _⟩
  have HD := Lib.hid (draw.keyText_any A len cap zs W hr (by omega))
  have HT := Lib.hid (fun w1 (hb : Below W.heap.size W w1) => hT.below hb)
  have HE := Lib.hid (fun w1 (hb : Below W.heap.size W w1) => hE.below hb)
  have HRQ := Lib.hid (fun (t : ByteArray) (a : Int) (ht : t.size ≤ 1048576) (h0 : -9223372036854775808 ≤ a) (h1 : a ≤ 9223372036854775807) w hb => readq.impl_readq t a w ht h0 h1 (HT.out w hb) (HE.out w hb))
  have HP3 : Hid (∀ w, Below W.heap.size W w → Calls Tryd.prog 13 #[.string ⟨#[34, 92, 117, 100, 56, 51, 100, 92, 117, 100, 101, 48, 48, 34]⟩, .int .i64 0] w fun e w' => e = .returned (.tuple #[.string ⟨#[240, 159, 152, 128]⟩, .int .i64 14]) ∧ Below w.heap.size w w') := by
    intro w hb
    have h := HRQ.out ⟨#[34, 92, 117, 100, 56, 51, 100, 92, 117, 100, 101, 48, 48, 34]⟩ 0 (by decide) (by decide) (by decide) w hb
    rw [quote.pair_text] at h
    exact h
  have HP4 : Hid (∀ w, Below W.heap.size W w → Calls Tryd.prog 13 #[.string ⟨#[34, 92, 117, 100, 56, 51, 100, 34]⟩, .int .i64 0] w fun e w' => (∃ u, e = .returned (.tuple #[.string u, .int .i64 (-1)])) ∧ Below w.heap.size w w') := by
    intro w hb
    have h := HRQ.out ⟨#[34, 92, 117, 100, 56, 51, 100, 34]⟩ 0 (by decide) (by decide) (by decide) w hb
    rw [quote.half_text] at h
    exact h.mono (fun e w' hh => ⟨⟨_, hh.1⟩, hh.2⟩)
  have HA : Hid (∀ w, Below W.heap.size W w → Calls Tryd.prog 11 #[.string ⟨#[97]⟩] w fun e w' => e = .returned (.string ⟨#[34, 97, 34]⟩) ∧ Below w.heap.size w w') := by
    intro w hb
    have h := quote.impl_quoted ⟨#[97]⟩ w (by decide) (HT.out w hb)
    rw [quote.one_text] at h
    exact h
  clear hr hT hE
  go_enter Tryd.func8, Tryd.ntmps8
  go_wp2_with fail
  refine hB.out.mono ?_
  rintro e w1 ⟨rfl, rfl⟩
  clear hB
  go_wp2_with fail
  refine HD.out.mono ?_
  rintro e w1 ⟨s, hs, rfl, hb1⟩
  clear HD
  have HQ := Lib.hid (fun w hb => quote.impl_quoted s w (by omega) (HT.out w hb))
  have HU := Lib.hid (fun w => rune.spec_utf s w (by omega))
  have Hb1 := Lib.hid hb1
  clear hb1
  cases hrf : rune.runesF s with
  | none =>
    rw [quote.quoted_no hrf] at HQ
    rw [(rune.res_none hrf).2] at HU
    clear hrf HRQ HP3 HP4
    go_wp2_with fail
    refine (HQ.out _ Hb1.out).mono ?_
    rintro e w2 ⟨rfl, hb2⟩
    have Hb2 := Lib.hid (Hb1.out.trans (hb2.mono Hb1.out.size))
    clear hb2 Hb1
    go_wp2_with fail
    refine (HU.out _).mono ?_
    rintro e w3 ⟨rfl, hb3⟩
    have Hb3 := Lib.hid (Hb2.out.trans (hb3.mono Hb2.out.size))
    clear hb3 Hb2
    go_wp2_with fail
    refine (HA.out _ Hb3.out).mono ?_
    rintro e w4 ⟨rfl, hb4⟩
    have Hb4 := Lib.hid (Hb3.out.trans (hb4.mono Hb3.out.size))
    clear hb4 Hb3
    go_wp2_with fail
    go_ret
    exact ⟨rfl, Hb4.out⟩
  | some l =>
    rw [quote.quoted_yes hrf] at HQ
    rw [(rune.res_some hrf).2] at HU
    have hback := quote.quoted_back hrf
    have hopen := quote.quoted_open hrf
    have hqz : (quote.wrap (quote.byB s.data.toList)).size ≤ 170 ∧ 2 ≤ (quote.wrap (quote.byB s.data.toList)).size := by
      have h := byB_le s.data.toList
      have e : s.data.toList.length = s.size := by simp
      rw [quote.wrap_size]
      omega
    generalize quote.wrap (quote.byB s.data.toList) = q at HQ hback hopen hqz
    obtain ⟨hq1, hq2⟩ := hqz
    obtain ⟨m, hm2⟩ : ∃ m : Nat, m = q.size - 1 := ⟨_, rfl⟩
    rw [← hm2] at hopen
    have ec : (q.size : Int) - 1 = (m : Int) := by omega
    have hms : m ≤ q.size := by omega
    have he := empty_no (f := q) (by omega)
    have z1 : (⟨#[120]⟩ ++ q : ByteArray).size = q.size + 1 := by rw [ByteArray.size_append]; show 1 + q.size = _; omega
    have z2 : (⟨#[120]⟩ ++ q ++ ⟨#[121]⟩ : ByteArray).size = q.size + 2 := by rw [ByteArray.size_append, z1]; rfl
    have HP1 : Hid (∀ w, Below W.heap.size W w → Calls Tryd.prog 13 #[.string (⟨#[120]⟩ ++ q ++ ⟨#[121]⟩), .int .i64 1] w fun e w' => e = .returned (.tuple #[.string s, .int .i64 (1 + (q.size : Int))]) ∧ Below w.heap.size w w') := by
      intro w hb
      have h := HRQ.out (⟨#[120]⟩ ++ q ++ ⟨#[121]⟩) 1 (by omega) (by decide) (by decide) w hb
      rw [hback] at h
      exact h
    have HP2 : Hid (∀ w, Below W.heap.size W w → Calls Tryd.prog 13 #[.string (q.extract 0 m), .int .i64 0] w fun e w' => (∃ u, e = .returned (.tuple #[.string u, .int .i64 (-1)])) ∧ Below w.heap.size w w') := by
      intro w hb
      have h := HRQ.out (q.extract 0 m) 0 (by rw [ByteArray.size_extract]; omega) (by decide) (by decide) w hb
      rw [hopen] at h
      exact h.mono (fun e w' hh => ⟨⟨_, hh.1⟩, hh.2⟩)
    have hadd1 : ¬ 9223372036854775807 < 1 + q.size := by omega
    have hadd2 : ¬ 9223372036854775807 < (⟨#[120]⟩ ++ q : ByteArray).size + 1 := by omega
    have hwm : IntKind.i64.wrap (m : Int) = (m : Int) := IntWalk.i64_in _ (by omega)
    clear hrf HRQ HA hback hopen hm2
    go_wp2_with fail
    refine (HQ.out _ Hb1.out).mono ?_
    rintro e w2 ⟨rfl, hb2⟩
    have Hb2 := Lib.hid (Hb1.out.trans (hb2.mono Hb1.out.size))
    clear hb2 Hb1
    go_wp2_with fail
    refine (HU.out _).mono ?_
    rintro e w3 ⟨rfl, hb3⟩
    have Hb3 := Lib.hid (Hb2.out.trans (hb3.mono Hb2.out.size))
    clear hb3 Hb2
    go_wp2_with fail
    refine (HP1.out _ Hb3.out).mono ?_
    rintro e w4 ⟨rfl, hb4⟩
    have Hb4 := Lib.hid (Hb3.out.trans (hb4.mono Hb3.out.size))
    clear hb4 Hb3 HP1
    go_wp2_with fail
    refine (HP2.out _ Hb4.out).mono ?_
    rintro e w5 ⟨⟨u5, rfl⟩, hb5⟩
    have Hb5 := Lib.hid (Hb4.out.trans (hb5.mono Hb4.out.size))
    clear hb5 Hb4 HP2
    go_wp2_with fail
    refine (HP3.out _ Hb5.out).mono ?_
    rintro e w6 ⟨rfl, hb6⟩
    have Hb6 := Lib.hid (Hb5.out.trans (hb6.mono Hb5.out.size))
    clear hb6 Hb5 HP3
    go_wp2_with fail
    refine (HP4.out _ Hb6.out).mono ?_
    rintro e w7 ⟨⟨u7, rfl⟩, hb7⟩
    have Hb7 := Lib.hid (Hb6.out.trans (hb7.mono Hb6.out.size))
    clear hb7 Hb6 HP4
    have hss : (s.toList == s.toList) = true := by simp
    go_wp2_with fail
    go_ret
    exact ⟨rfl, Hb7.out⟩
end Go.Proofs.YtamlkieeiflgkaaDoor.fnQuoted
