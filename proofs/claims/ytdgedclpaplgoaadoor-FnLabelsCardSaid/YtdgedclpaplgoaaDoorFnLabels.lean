/- FnLabels: for every byte slice the law returns true. -/
import Derived.Test.YtdgedclpaplgoaaDoorGA10
import Derived.Test.YtdgedclpaplgoaaDoorGA7
import Derived.Test.YtdgedclpaplgoaaDoorGA8
import Derived.Test.YtdgedclpaplgoaaDoorGA9
import Derived.Test.YtdgedclpaplgoaaDoorGA3
namespace Go.Proofs.YtdgedclpaplgoaaDoor.fnLabels
open Go.ChangeShapes Go.WideShapes Go.ChangeAt Go.RowKit
open lab ty draw
set_option linter.unusedVariables false

theorem name_yes : NameP ⟨#[97, 45, 98]⟩ := ⟨by decide, by decide, by decide, by decide, by decide⟩
theorem name_no : ¬ NameP ⟨#[45, 97]⟩ := fun h => h.fst (by decide)
theorem same_self (l : List Label) : yes (SameP l l) = true := yes_t (sameP_iff.2 rfl)
theorem labs_nil : LabelsP [] := ⟨by simp, fun i hi => by simp at hi⟩
theorem line_size {l : List Label} (h : LabelsP l) : (lineF l).size ≤ 400 := by
  by_cases h0 : l = []
  · subst h0; rw [line_nil h]; decide
  · rw [line_yes h h0]
    have h6 := h.1
    have := join_len h.2 h.1 l.length (Nat.le_refl _)
    rw [List.take_length] at this
    show (joinB l).toArray.size ≤ 400
    rw [List.size_toArray]
    omega
theorem sort_cases (l : List Label) : sortF l = (l, false) ∨ (sortF l = (sorted l, true) ∧ LabelsP (sorted l)) := by
  unfold sortF
  split
  · next h => exact .inr ⟨rfl, h.2⟩
  · exact .inl rfl
set_option maxRecDepth 100000 in
set_option maxHeartbeats 8000000 in
theorem walk (A : Option Addr) (len cap : Nat) (zs : List Int) (W : World) (hr : IsRow .u8 W A len cap zs) (hM : line.MaxL W) :
    Calls Tryd.prog 3 #[.slice A len cap] W fun e w' => e = .returned (.bool true) ∧ Below W.heap.size W w' := by
  have hm := hr.le
  have hB := Lib.hid (lawBig.any A len cap W hm)
  unfold maxLen at hm
  by_cases h1 : 1048576 < len
  · clear hr hM
    go_enter Tryd.func3, Tryd.ntmps3
    go_wp2_with fail
    refine hB.out.mono ?_
    rintro e w1 ⟨rfl, rfl⟩
    go_wp2_with fail
    go_ret
    exact ⟨rfl, Below.refl _ _⟩
  have HD := Lib.hid (draw.sortL_any A len cap zs W hr (by omega))
  have HM := Lib.hid (fun w1 (hb : Below W.heap.size W w1) => hM.below hb)
  clear hr hM
  go_enter Tryd.func3, Tryd.ntmps3
  go_wp2_with fail
  refine hB.out.mono ?_
  rintro e w1 ⟨rfl, rfl⟩
  clear hB
  go_wp2_with fail
  refine HD.out.mono ?_
  clear HD
  rintro e w1 ⟨l, v, F, hl, ht, rfl, ho, hb1⟩
  have Hsm := Lib.hid (ht.small (by decide))
  have L1 := Lib.hid (fun w (hb : Below w1.heap.size w1 w) => ho.lies.below hb)
  obtain ⟨A1, c1, rfl, hc1, hcm, ff, hff, hel⟩ := els_of Label.row_length ho.lies
  clear hff hel
  unfold maxLen at hcm
  have Hb1 := Lib.hid hb1
  have HS := Lib.hid (fun w hb => impl_sort l _ _ w (L1.out w hb) Hsm.out (by omega))
  have HP := Lib.hid (fun w hb => spec_sort l _ _ w (L1.out w hb) Hsm.out (by omega))
  clear ho hb1 ht
  rcases sort_cases l with hno | ⟨hyes, hP⟩
  · rw [hno] at HS HP
    clear hno
    go_wp2_with fail
    refine (HS.out w1 (Below.refl _ _)).mono ?_
    rintro e w2 ⟨v2, f2, F2, rfl, o2, _, hb2⟩
    have L2 := Lib.hid (fun w (hb : Below w2.heap.size w2 w) => o2.lies.below hb)
    have HP2 := Lib.hid (HP.out w2 hb2)
    have Hb2 := Lib.hid hb2
    clear HS HP o2 hb2
    go_wp2_with fail
    refine HP2.out.mono ?_
    rintro e w3 ⟨v3, f3, F3, rfl, o3, _, hb3⟩
    have HQ := Lib.hid (drew_below (law_same l l _ _ v2 v3 w3 (L2.out w3 hb3) o3.lies))
    rw [same_self] at HQ
    have Hb23 := Lib.hid hb3
    have Hb3 := Lib.hid (Hb2.out.trans (hb3.mono Hb2.out.size))
    clear HP2 o3 hb3
    go_wp2_with fail
    refine HQ.out.mono ?_
    rintro e w4 ⟨rfl, hb4⟩
    have HQ2 := Lib.hid (drew_below (law_same l l _ _ v2 _ w4 (L2.out w4 (Hb23.out.trans (hb4.mono Hb23.out.size))) (L1.out w4 (Hb3.out.trans (hb4.mono Hb3.out.size)))))
    rw [same_self] at HQ2
    have Hb4 := Lib.hid (Hb1.out.trans ((Hb3.out.trans (hb4.mono Hb3.out.size)).mono Hb1.out.size))
    clear HQ hb4 Hb3 Hb23 Hb2 L1 L2
    go_wp2_with fail
    refine HQ2.out.mono ?_
    rintro e w5 ⟨rfl, hb5⟩
    have HN := Lib.hid (impl_name ⟨#[97, 45, 98]⟩ w5 (by decide))
    rw [yes_t name_yes] at HN
    have Hb5 := Lib.hid (Hb4.out.trans (hb5.mono Hb4.out.size))
    clear HQ2 hb5 Hb4
    go_wp2_with fail
    refine HN.out.mono ?_
    rintro e w6 ⟨rfl, hb6⟩
    have HN2 := Lib.hid (impl_name ⟨#[45, 97]⟩ w6 (by decide))
    rw [yes_f name_no] at HN2
    have Hb6 := Lib.hid (Hb5.out.trans (hb6.mono Hb5.out.size))
    clear HN hb6 Hb5
    go_wp2_with fail
    refine HN2.out.mono ?_
    rintro e w7 ⟨rfl, hb7⟩
    have Hb7 := Lib.hid (Hb6.out.trans (hb7.mono Hb6.out.size))
    clear hb7
    go_wp2_with fail
    go_ret
    exact ⟨rfl, Hb7.out⟩
  · rw [hyes] at HS HP
    have HPs := Lib.hid hP
    have Hat := Lib.hid (fun x (hx : x ∈ l) => at_sorted hP hx)
    have Hls := Lib.hid (line_size hP)
    have Hrb := Lib.hid (read_line hP)
    have Hsms := Lib.hid (small_sorted Hsm.out)
    clear hyes hP
    generalize sorted l = s at HS HP HPs Hat Hls Hrb Hsms
    go_wp2_with fail
    refine (HS.out w1 (Below.refl _ _)).mono ?_
    rintro e w2 ⟨v2, f2, F2, rfl, o2, _, hb2⟩
    have L2 := Lib.hid (fun w (hb : Below w2.heap.size w2 w) => o2.lies.below hb)
    have HP2 := Lib.hid (HP.out w2 hb2)
    have Hb2 := Lib.hid hb2
    clear HS HP o2 hb2
    go_wp2_with fail
    refine HP2.out.mono ?_
    rintro e w3 ⟨v3, f3, F3, rfl, o3, _, hb3⟩
    have L3 := Lib.hid (fun w (hb : Below w3.heap.size w3 w) => o3.lies.below hb)
    have HQ := Lib.hid (drew_below (law_same s s _ _ v2 v3 w3 (L2.out w3 hb3) o3.lies))
    rw [same_self] at HQ
    have L23 := Lib.hid (fun w (hb : Below w3.heap.size w3 w) => L2.out w (hb3.trans (hb.mono hb3.size)))
    have L13 := Lib.hid (fun w (hb : Below w3.heap.size w3 w) => L1.out w (Hb2.out.trans ((hb3.trans (hb.mono hb3.size)).mono Hb2.out.size)))
    have Hb3 := Lib.hid (Hb1.out.trans ((Hb2.out.trans (hb3.mono Hb2.out.size)).mono Hb1.out.size))
    clear HP2 o3 hb3 Hb2 L1 L2 Hb1
    go_wp2_with fail
    refine HQ.out.mono ?_
    rintro e w4 ⟨rfl, hb4⟩
    have HLn := Lib.hid (impl_line s _ v2 w4 (L23.out w4 hb4) Hsms.out)
    have Hb4 := Lib.hid hb4
    clear HQ hb4
    go_wp2_with fail
    refine HLn.out.mono ?_
    rintro e w5 ⟨rfl, hb5⟩
    have Hb5 := Lib.hid (Hb4.out.trans (hb5.mono Hb4.out.size))
    have HRd := Lib.hid (impl_read (lineF s) w5 (by have := Hls.out; omega) (HM.out w5 (Hb3.out.trans (Hb5.out.mono Hb3.out.size))))
    rw [Hrb.out] at HRd
    clear HLn hb5 Hb4
    go_wp2_with fail
    refine HRd.out.mono ?_
    rintro e w6 ⟨v6, f6, F6, rfl, o6, _, hb6⟩
    have Hb6 := Lib.hid (Hb5.out.trans (hb6.mono Hb5.out.size))
    have L6 := Lib.hid (fun w (hb : Below w6.heap.size w6 w) => o6.lies.below hb)
    clear HRd hb6 Hb5 o6 Hls Hrb
    go_wp2_with fail
    go_loopw [10] (fun i wr => ∃ j : Nat, j ≤ l.length ∧ i = .int .i64 j ∧ Below w6.heap.size w6 wr) (fun i _ => l.length - (intOf i).toNat)
    case atStart => exact ⟨0, Nat.zero_le _, rfl, Below.refl _ _⟩
    case round =>
      obtain ⟨j, hj, rfl, hbel⟩ := hrel
      have Hbel := Lib.hid hbel
      have Hb3r := Lib.hid (Hb6.out.trans (hbel.mono Hb6.out.size))
      clear hbel
      by_cases hlt : j < l.length
      · obtain ⟨A', c', hA', h8, h9, f', hf', hels⟩ := els_of Label.row_length (L13.out wr Hb3r.out)
        injection hA' with a1 a2 a3
        subst a1 a3
        obtain ⟨g, o, hA, hg, us, hus, hcc, hls⟩ := hels.get hlt
        obtain ⟨rfl, hwf⟩ := Label.opened hls
        have q0 : wr.cell? ⟨g, o + j * 2, none⟩ = some (.string l[j].key) := hcc 0 _ rfl
        have q1 : wr.cell? ⟨g, o + j * 2 + 1, none⟩ = some (.string l[j].value) := hcc 1 _ rfl
        have HA := Lib.hid (impl_at s l[j].key _ v2 wr (L23.out wr Hb3r.out))
        rw [Hat.out l[j] (List.getElem_mem hlt)] at HA
        unfold twoS at HA
        have Hq1 := Lib.hid (fun w' (hb : Below wr.heap.size wr w') => (World.cell?_of_block (hb.block g hg)).trans q1)
        subst hA
        clear hf' hels hcc hls hus hwf hg q1 h8 h9
        generalize l[j].key = a at q0 HA
        generalize l[j].value = b at Hq1 HA
        go_wp2_with fail
        refine HA.out.mono ?_
        rintro e w7 ⟨rfl, hb7⟩
        have q1 := Hq1.out w7 hb7
        have hbb : (b.toList == b.toList) = true := by simp
        have Hb7 := Lib.hid (Hbel.out.trans (hb7.mono Hbel.out.size))
        clear hb7 Hq1 HA Hbel Hb3r
        go_wp2_with fail
        go_roundw
        case rel => exact ⟨j + 1, by omega, by go_num, Hb7.out⟩
        case measure => simp [intOf]; omega
      · obtain rfl : j = l.length := by omega
        have HLo := Lib.hid (impl_labels_any s _ v2 wr (L23.out wr Hb3r.out))
        rw [yes_t HPs.out] at HLo
        clear hlt hj
        go_wp2_with fail
        refine HLo.out.mono ?_
        rintro e w7 ⟨rfl, hb7⟩
        have Hb7 := Lib.hid (Hbel.out.trans (hb7.mono Hbel.out.size))
        have Hb37 := Lib.hid (Hb3r.out.trans (hb7.mono Hb3r.out.size))
        have HQ := Lib.hid (drew_below (law_same s s _ _ v6 v2 w7 (L6.out w7 Hb7.out) (L23.out w7 Hb37.out)))
        rw [same_self] at HQ
        clear hb7 HLo Hbel Hb3r
        go_wp2_with fail
        refine HQ.out.mono ?_
        rintro e w8 ⟨rfl, hb8⟩
        have Hb38 := Lib.hid (Hb37.out.trans (hb8.mono Hb37.out.size))
        have HSm := Lib.hid (impl_same s s _ _ v2 v3 w8 (L23.out w8 Hb38.out) (L3.out w8 Hb38.out))
        rw [same_self] at HSm
        clear hb8 HQ Hb7 Hb37
        go_wp2_with fail
        refine HSm.out.mono ?_
        rintro e w9 ⟨rfl, hb9⟩
        have Hb39 := Lib.hid (Hb38.out.trans (hb9.mono Hb38.out.size))
        have HLn : Hid (Calls Tryd.prog 14 #[.slice none 0 0] w9 fun e w' => e = .returned (.string ⟨#[45]⟩) ∧ Below w9.heap.size w9 w') := by
          obtain ⟨F0, ho, _, _⟩ := own_lvals (w := w9) (B := w9.heap.size) (e := 0) (v := .slice none 0 0) (l := []) ⟨rfl, .inl ⟨rfl, rfl⟩⟩ (fun x hx => by cases hx)
          have := impl_line [] _ _ w9 ho.lies (fun x hx => by cases hx)
          rw [line_nil labs_nil] at this
          exact this
        clear hb9 HSm Hb38
        go_wp2_with fail
        refine HLn.out.mono ?_
        rintro e w10 ⟨rfl, hb10⟩
        have HbW := Lib.hid (Hb3.out.trans ((Hb39.out.trans (hb10.mono Hb39.out.size)).mono Hb3.out.size))
        clear hb10 HLn Hb39
        go_wp2_with fail
        go_ret
        exact ⟨rfl, HbW.out⟩
end Go.Proofs.YtdgedclpaplgoaaDoor.fnLabels
