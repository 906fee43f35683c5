/- impl.labelOk, impl.LabelsOk. -/
import Derived.Test.YtjjffdhcapjhdaaDoorIdI
import Derived.Test.YtjjffdhcapjhdaaDoorGLabM
import Derived.Test.YtjjffdhcapjhdaaDoorQuietB
import Derived.Laws.Cover1
namespace Go.Proofs.YtjjffdhcapjhdaaDoor.lab
open Go.ChangeShapes Go.WideShapes Go.ChangeAt Go.RowKit ty
set_option linter.unusedVariables false

theorem yes_and {p q : Prop} : yes (p ∧ q) = (yes p && yes q) := by
  by_cases hp : p
  · by_cases hq : q
    · rw [yes_t hp, yes_t hq, yes_t ⟨hp, hq⟩]; rfl
    · rw [yes_t hp, yes_f hq, yes_f fun h => hq h.2]; rfl
  · rw [yes_f hp, yes_f fun h => hp h.1]; rfl
set_option maxRecDepth 100000 in
set_option maxHeartbeats 4000000 in
theorem impl_label (x : Label) (w : World) (hw : x.Wf) :
    Calls Tryd.prog 45 #[.agg #[.string x.key, .string x.value]] w fun e w' => e = .returned (.bool (yes (KeyP x.key ∧ ValP x.value))) ∧ Below w.heap.size w w' := by
  have h1 := hw.1
  have h2 := hw.2
  unfold maxLen at h1 h2
  have HK := Lib.hid (fun w => impl_key x.key w h1)
  have HV := Lib.hid (fun w => impl_val x.value w h2)
  rw [yes_and]
  clear hw h1 h2
  generalize x.key = a at HK
  generalize x.value = b at HV
  cases hk : yes (KeyP a) with
  | false =>
    rw [hk] at HK
    clear hk HV
    go_enter Tryd.func45, Tryd.ntmps45
    go_wp2_with fail
    refine (HK.out _).mono ?_
    rintro e w1 ⟨rfl, hb⟩
    go_wp2_with fail
    go_ret
    exact ⟨rfl, (Below.refl _ _).alloc (Nat.le_refl _) _ |>.trans (hb.mono (by simp))⟩
  | true =>
    rw [hk] at HK
    generalize yes (ValP b) = R at HV
    clear hk
    go_enter Tryd.func45, Tryd.ntmps45
    go_wp2_with fail
    refine (HK.out _).mono ?_
    rintro e w1 ⟨rfl, hb⟩
    have q1 : w1.cell? ⟨w.heap.size, 1, none⟩ = some (.string b) := by
      rw [World.cell?_of_block (hb.block _ (by simp))]
      simp
    have hb2 : Below w.heap.size w w1 := (Below.refl _ _).alloc (Nat.le_refl _) _ |>.trans (hb.mono (by simp))
    clear hb
    go_wp2_with fail
    refine (HV.out _).mono ?_
    rintro e w2 ⟨rfl, hb⟩
    go_wp2_with fail
    go_ret
    exact ⟨by cases R <;> rfl, hb2.trans (hb.mono hb2.size)⟩
set_option maxRecDepth 100000 in
set_option maxHeartbeats 8000000 in
theorem impl_labels_any (l : List Label) (f : Nat) (v : Value) (w : World) (h : Lies w f v (.sl 2 l.length (l.flatMap Label.row))) :
    Calls Tryd.prog 20 #[v] w fun e w' => e = .returned (.bool (yes (LabelsP l))) ∧ Below w.heap.size w w' := by
  obtain ⟨A, c, rfl, hc1, hc2, f', rfl, hk⟩ := els_of Label.row_length h
  unfold maxLen at hc2
  obtain ⟨R, hR⟩ : ∃ R, yes (LabelsP l) = R := ⟨_, rfl⟩
  rw [hR]
  have Hno : Hid (¬ LabelsP l → R = false) := fun h => by rw [← hR]; exact yes_f h
  have Hyes : Hid (LabelsP l → R = true) := fun h => by rw [← hR]; exact yes_t h
  have Hk := Lib.hid hk
  clear h hk hR
  by_cases h6 : 6 < l.length
  · have Hf := Lib.hid (Hno.out fun h2 => by have := h2.1; omega)
    go_enter Tryd.func20, Tryd.ntmps20
    go_wp2_with fail
    go_ret
    exact ⟨by rw [Hf.out]; rfl, Below.refl _ _⟩
  have Hmk := Lib.hid (fun h3 => Hyes.out ⟨by omega, h3⟩)
  go_enter Tryd.func20, Tryd.ntmps20
  go_wp2_with fail
  go_loopw [10] (fun i wr => ∃ j : Nat, j ≤ l.length ∧ i = .int .i64 j ∧ Hid (GoodTo l j) ∧ Below w.heap.size w wr) (fun i _ => l.length - (intOf i).toNat)
  case atStart => exact ⟨0, Nat.zero_le _, rfl, fun i hi hj => by omega, Below.refl _ _⟩
  case round =>
    obtain ⟨j, hj, rfl, hgood, hbel⟩ := hrel
    have Hw := Lib.hid hbel
    by_cases hlt : j < l.length
    · obtain ⟨g, o, hA, hg, hcc⟩ := (Hk.out.below hbel) (by omega)
      obtain ⟨us, hus, hc, hls⟩ := hcc j _ (List.getElem?_eq_getElem hlt)
      obtain ⟨rfl, hwf⟩ := Label.opened hls
      have q0 : wr.cell? ⟨g, o + j * 2, none⟩ = some (.string l[j].key) := hc 0 _ rfl
      have q1 : wr.cell? ⟨g, o + j * 2 + 1, none⟩ = some (.string l[j].value) := hc 1 _ rfl
      have HL := Lib.hid (fun w => impl_label l[j] w hwf)
      have hji : (0 : Int) ≤ (j : Int) := by omega
      have HW2 : Hid (∀ p : BelowBy (wr.alloc (.cells #[.string l[j].key, .string l[j].value] 35)), Below w.heap.size w p.v) := fun p => (hbel.alloc hbel.size _).trans (p.h.mono (by have := hbel.size; simp; omega))
      have B0 : ∀ p : BelowBy (wr.alloc (.cells #[.string l[j].key, .string l[j].value] 35)), p.v.cell? ⟨wr.heap.size, 0, none⟩ = some (.string l[j].key) := fun p => p.cell (by simp) (by simp)
      have B1 : ∀ p : BelowBy (wr.alloc (.cells #[.string l[j].key, .string l[j].value] 35)), p.v.cell? ⟨wr.heap.size, 1, none⟩ = some (.string l[j].value) := fun p => p.cell (by simp) (by simp)
      by_cases hK : KeyP l[j].key ∧ ValP l[j].value
      case neg =>
        have Hf := Lib.hid (Hno.out fun h2 => hK ⟨(good_at h2.2 hlt).1, (good_at h2.2 hlt).2.1⟩)
        rw [yes_f hK] at HL
        subst hA
        clear hK Hno Hyes Hmk hgood hcc hc hls hus hwf hbel hg
        generalize l[j].key = x at q0 HL B0 B1 HW2
        generalize l[j].value = y at q1 HL B0 B1 HW2
        go_wp2_with fail
        refine wp_region_quiet_below (by kernel_rfl) (by kernel_rfl) ?_
        repeat (refine @wpQuiet_step _ _ _ _ _ _ _ ?_; intro K hK; go_simp; first | (refine hK _ ?_; clear hK K) | (apply Exists.intro; refine ⟨fun _ => ?_, hK _ ?_⟩; (first | (go_at_call 45; exact Calls.below_of (HL.out _))); clear hK K))
        refine wpQuiet_nil ?_
        intro _ hw'
        obtain ⟨p, rfl⟩ := hw'
        go_wp2_with fail
        go_ret
        exact ⟨by rw [Hf.out]; rfl, HW2.out p⟩
      rw [yes_t hK] at HL
      by_cases hj0 : j = 0
      · have Hg := Lib.hid (good_next hgood.out hlt hK.1 hK.2 (fun m hm => by omega))
        have hn0 : ¬ (0 : Int) < (j : Int) := by omega
        have hn1 : ¬ 0 < j := by omega
        subst hA
        clear hK Hno Hyes hgood hcc hc hls hus hwf hj0 hbel hg
        generalize l[j].key = x at q0 HL B0 B1 HW2
        generalize l[j].value = y at q1 HL B0 B1 HW2
        go_wp2_with fail
        refine wp_region_quiet_below (by kernel_rfl) (by kernel_rfl) ?_
        repeat (refine @wpQuiet_step _ _ _ _ _ _ _ ?_; intro K hK; go_simp; first | (refine hK _ ?_; clear hK K) | (apply Exists.intro; refine ⟨fun _ => ?_, hK _ ?_⟩; (first | (go_at_call 45; exact Calls.below_of (HL.out _))); clear hK K))
        refine wpQuiet_nil ?_
        intro _ hw'
        obtain ⟨p, rfl⟩ := hw'
        go_wp2_with fail
        go_roundw
        case rel => exact ⟨j + 1, by omega, by go_num, Hg.out, HW2.out p⟩
        case measure => simp [intOf]; omega
      obtain ⟨m, hm⟩ : ∃ m, m + 1 = j := ⟨j - 1, by omega⟩
      have hml : m < l.length := by omega
      obtain ⟨us2, hus2, hc2', hls2⟩ := hcc m _ (List.getElem?_eq_getElem hml)
      obtain ⟨rfl, hwf2⟩ := Label.opened hls2
      have P0 : ∀ p : BelowBy (wr.alloc (.cells #[.string l[j].key, .string l[j].value] 35)), p.v.cell? ⟨g, o + m * 2, none⟩ = some (.string l[m].key) := fun p => p.cell (by simp; omega) (by
        have e : wr.cell? ⟨g, o + m * 2, none⟩ = some (.string l[m].key) := hc2' 0 _ rfl
        rw [World.cell?_of_block (((Below.refl wr.heap.size wr).alloc (Nat.le_refl _) _).block g hg)]
        exact e)
      have hmi : (j : Int) - 1 = (m : Int) := by omega
      have hwm : IntKind.i64.wrap (m : Int) = (m : Int) := IntWalk.i64_in _ (by omega)
      have hm0 : (0 : Int) ≤ (m : Int) := by omega
      have hm1 : (m : Int) < (l.length : Int) := by omega
      have hjp : (0 : Int) < (j : Int) := by omega
      have hjp1 : 0 < j := by omega
      cases hb : lessB l[m].key l[j].key with
      | true =>
        have Hg := Lib.hid (good_next hgood.out hlt hK.1 hK.2 (fun m' hm' => by obtain rfl : m' = m := by omega
                                                                                exact hb))
        unfold lessB at hb
        subst hA
        clear hK Hno Hyes hgood hcc hc hls hus hwf hj0 hc2' hls2 hus2 hwf2 hm hbel hg
        generalize l[j].key = x at q0 HL hb B0 B1 P0 HW2
        generalize l[j].value = y at q1 HL B0 B1 P0 HW2
        generalize l[m].key = z at P0 hb
        go_wp2_with fail
        refine wp_region_quiet_below (by kernel_rfl) (by kernel_rfl) ?_
        repeat (refine @wpQuiet_step _ _ _ _ _ _ _ ?_; intro K hK; go_simp; first | (refine hK _ ?_; clear hK K) | (apply Exists.intro; refine ⟨fun _ => ?_, hK _ ?_⟩; (first | (go_at_call 45; exact Calls.below_of (HL.out _))); clear hK K))
        refine wpQuiet_nil ?_
        intro _ hw'
        obtain ⟨p, rfl⟩ := hw'
        go_wp2_with fail
        go_roundw
        case rel => exact ⟨j + 1, by omega, by go_num, Hg.out, HW2.out p⟩
        case measure => simp [intOf]; omega
      | false =>
        have Hf := Lib.hid (Hno.out fun h2 => by rw [(good_at h2.2 hlt).2.2 m hm] at hb; cases hb)
        unfold lessB at hb
        subst hA
        clear hK Hno Hyes hgood hcc hc hls hus hwf hj0 hc2' hls2 hus2 hwf2 hm Hmk hbel hg
        generalize l[j].key = x at q0 HL hb B0 B1 P0 HW2
        generalize l[j].value = y at q1 HL B0 B1 P0 HW2
        generalize l[m].key = z at P0 hb
        go_wp2_with fail
        refine wp_region_quiet_below (by kernel_rfl) (by kernel_rfl) ?_
        repeat (refine @wpQuiet_step _ _ _ _ _ _ _ ?_; intro K hK; go_simp; first | (refine hK _ ?_; clear hK K) | (apply Exists.intro; refine ⟨fun _ => ?_, hK _ ?_⟩; (first | (go_at_call 45; exact Calls.below_of (HL.out _))); clear hK K))
        refine wpQuiet_nil ?_
        intro _ hw'
        obtain ⟨p, rfl⟩ := hw'
        go_wp2_with fail
        go_ret
        exact ⟨by rw [Hf.out]; rfl, HW2.out p⟩
    · obtain rfl : j = l.length := by omega
      have Hf := Lib.hid (Hmk.out hgood.out)
      clear hgood hbel
      go_wp2_with fail
      go_ret
      exact ⟨by rw [Hf.out]; rfl, Hw.out⟩
theorem impl_labels (l : List Label) (f : Nat) (v : Value) (w : World) (h : Lies w f v (.sl 2 l.length (l.flatMap Label.row))) (hz : Small l) :
    Calls Tryd.prog 20 #[v] w fun e w' => e = .returned (.bool (yes (LabelsP l))) ∧ Below w.heap.size w w' := impl_labels_any l f v w h
end Go.Proofs.YtjjffdhcapjhdaaDoor.lab
