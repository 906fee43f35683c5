/- Merged: AscLabel LabOkI OrI MethI FieldsI CmpCI OpenEl OpLabelS. -/
import Derived.Test.YtcfbkfmkjggcdaaDoorGA7
import Derived.Test.YtcfbkfmkjggcdaaDoorGA1
import Derived.Test.YtcfbkfmkjggcdaaDoorGA2
import Derived.Laws.Cover1
import Derived.Test.YtcfbkfmkjggcdaaDoorGA5
import Derived.Test.YtcfbkfmkjggcdaaDoorRows
import Derived.Test.YtcfbkfmkjggcdaaDoorGA6
import Derived.ProofKit
import Derived.OpenShut
import Derived.Laws.Rows
import Derived.Test.YtcfbkfmkjggcdaaDoorShelf
import Derived.Deep.RegionHeld3
import Derived.Test.YtcfbkfmkjggcdaaDoorGA3
import Derived.ChangeSame
import Derived.Deep.Slices
import Derived.Deep.Strs
namespace Go.Proofs.YtcfbkfmkjggcdaaDoor.lab
open Go.ChangeShapes Go.WideShapes Go.ChangeAt Go.RowKit ty lab dedup
open taint (GoodL goodL_next)
set_option linter.unusedVariables false

set_option maxRecDepth 100000 in
set_option maxHeartbeats 16000000 in
theorem impl_ascLabel (l : List Label) (f : Nat) (v : Value) (w : World) (h : Lies w f v (.sl 2 l.length (l.flatMap Label.row))) :
    Calls Tryd.prog 52 #[v, .func (.func 53) #[] #[], .func (.func 54) #[] #[]] w fun e w' => e = .returned (.bool (yes (GoodL LabEl lessK l l.length))) ∧ Below w.heap.size w w' := by
  obtain ⟨A, c, rfl, hc1, hc2, f', rfl, hk⟩ := els_of Label.row_length h
  unfold maxLen at hc2
  obtain ⟨R, hR⟩ : ∃ R, yes (GoodL LabEl lessK l l.length) = R := ⟨_, rfl⟩
  rw [hR]
  have Hno : Hid (¬ GoodL LabEl lessK l l.length → R = false) := fun h => by rw [← hR]; exact yes_f h
  have Hyes : Hid (GoodL LabEl lessK l l.length → R = true) := fun h => by rw [← hR]; exact yes_t h
  have Hk := Lib.hid hk
  clear h hk hR
  go_enter Tryd.func52, Tryd.ntmps52
  go_wp2_with fail
  go_loopw [11] (fun i wr => ∃ j : Nat, j ≤ l.length ∧ i = .int .i64 j ∧ Hid (GoodL LabEl lessK l j) ∧ Below w.heap.size w wr) (fun i _ => l.length - (intOf i).toNat)
  case atStart => exact ⟨0, Nat.zero_le _, rfl, fun i hi hj => by omega, Below.refl _ _⟩
  case round =>
    obtain ⟨j, hj, rfl, hgood, hbel⟩ := hrel
    have Hbel := Lib.hid hbel
    by_cases hlt : j < l.length
    · obtain ⟨g, o, rfl, hg, us, hus, hc, hls⟩ := (Hk.out.below hbel).get hlt
      obtain ⟨rfl, hwf⟩ := Label.opened hls
      have q0 : wr.cell? ⟨g, o + j * 2, none⟩ = some (.string l[j].key) := hc 0 _ rfl
      have q1 : wr.cell? ⟨g, o + j * 2 + 1, none⟩ = some (.string l[j].value) := hc 1 _ rfl
      obtain ⟨X, hX⟩ : ∃ X, X = wr.alloc (.cells #[.string l[j].key, .string l[j].value] 77) := ⟨_, rfl⟩
      have HB := Lib.hid (Box.new 77 wr [.string l[j].key, .string l[j].value])
      have hbX : Below wr.heap.size wr X := by rw [hX]; exact HB.out.1
      have HN := Lib.hid (fun p : BelowBy X => impl_labelEl l[j] p.v hwf)
      have HW2 : Hid (∀ p : BelowBy X, Below w.heap.size w p.v) := fun p => below_link hbel (hbX.trans (p.h.mono hbX.size)) hbel.size
      have B0 : ∀ p : BelowBy X, p.v.cell? ⟨wr.heap.size, 0, none⟩ = some (.string l[j].key) := fun p => p.cell (by rw [hX]; simp) (by rw [hX]; exact HB.out.cell (j := 0) rfl)
      have B1 : ∀ p : BelowBy X, p.v.cell? ⟨wr.heap.size, 1, none⟩ = some (.string l[j].value) := fun p => p.cell (by rw [hX]; simp) (by rw [hX]; exact HB.out.cell (j := 1) rfl)
      have HX := Lib.hid hX
      have hj0 : (0 : Int) ≤ (j : Int) := by omega
      have hjn : (j : Int) < (l.length : Int) := by omega
      by_cases hP : LabEl l[j]
      case neg =>
        have Hf := Lib.hid (Hno.out fun h2 => hP (h2 j hlt hlt).1)
        rw [yes_f hP] at HN
        clear hP Hno Hyes hgood hls hus hc hg hwf Hk hbel hbX hX HB
        generalize l[j] = x at *
        go_wp2_with fail
        rw [← HX.out]
        refine wp_region_quiet_below (by kernel_rfl) (by kernel_rfl) ?_
        repeat (refine @wpQuiet_step _ _ _ _ _ _ _ ?_; intro K hK; go_simp; first | (refine hK _ ?_; clear hK K) | (apply Exists.intro; refine ⟨fun _ => ?_, hK _ ?_⟩; (first | (go_at_call 53; exact Calls.below_of (HN.out _))); clear hK K))
        refine wpQuiet_nil ?_
        intro _ hw'
        obtain ⟨p, rfl⟩ := hw'
        go_wp2_with fail
        go_ret
        exact ⟨by rw [Hf.out]; rfl, HW2.out p⟩
      rw [yes_t hP] at HN
      by_cases hz : j = 0
      · have Hg := Lib.hid (goodL_next hgood.out hlt hP (fun m hm => by omega))
        have hn0 : ¬ (0 : Int) < (j : Int) := by omega
        have hn1 : ¬ 0 < j := by omega
        clear hP Hno Hyes hgood hls hus hc hg hwf Hk hz hbel hbX hX HB
        generalize l[j] = x at *
        go_wp2_with fail
        rw [← HX.out]
        refine wp_region_quiet_below (by kernel_rfl) (by kernel_rfl) ?_
        repeat (refine @wpQuiet_step _ _ _ _ _ _ _ ?_; intro K hK; go_simp; first | (refine hK _ ?_; clear hK K) | (apply Exists.intro; refine ⟨fun _ => ?_, hK _ ?_⟩; (first | (go_at_call 53; exact Calls.below_of (HN.out _))); clear hK K))
        refine wpQuiet_nil ?_
        intro _ hw'
        obtain ⟨p, rfl⟩ := hw'
        go_wp2_with fail
        go_roundw
        case rel => exact ⟨j + 1, by omega, by go_num, Hg.out, HW2.out p⟩
        case measure => simp [intOf]; omega
      obtain ⟨m, hm⟩ : ∃ m, m + 1 = j := ⟨j - 1, by omega⟩
      have hml : m < l.length := by omega
      obtain ⟨g', o', hA3, hg2, us2, hus2, hc2', hls2⟩ := (Hk.out.below hbel).get hml
      injection hA3 with hA3
      injection hA3 with e1 e2
      subst e1 e2
      obtain ⟨rfl, _⟩ := Label.opened hls2
      have HC := Lib.hid (fun p : BelowBy X => gr_below (impl_cmp l[m] l[j] p.v))
      have R0 : ∀ p : BelowBy X, p.v.cell? ⟨g, o + m * 2, none⟩ = some (.string l[m].key) := fun p => (World.cell?_of_block ((hbX.trans (p.h.mono hbX.size)).block g hg)).trans (hc2' 0 _ rfl)
      have R1 : ∀ p : BelowBy X, p.v.cell? ⟨g, o + m * 2 + 1, none⟩ = some (.string l[m].value) := fun p => (World.cell?_of_block ((hbX.trans (p.h.mono hbX.size)).block g hg)).trans (hc2' 1 _ rfl)
      have hmi : (j : Int) - 1 = (m : Int) := by omega
      have hwm : IntKind.i64.wrap (m : Int) = (m : Int) := IntWalk.i64_in _ (by omega)
      have hm0 : (0 : Int) ≤ (m : Int) := by omega
      have hm1 : (m : Int) < (l.length : Int) := by omega
      have hjp : (0 : Int) < (j : Int) := by omega
      have hjp1 : 0 < j := by omega
      have hb := cmpK_less l[m] l[j]
      by_cases hr : cfL l[m] l[j] < 0
      · rw [decide_eq_true hr] at hb
        have Hg := Lib.hid (goodL_next hgood.out hlt hP (fun m' hm' => by obtain rfl : m' = m := by omega
                                                                          exact hb.symm))
        have hr0 : ¬ (0 : Int) ≤ cfL l[m] l[j] := by omega
        clear hP Hno Hyes hgood hls hus hc hg hwf hls2 hus2 hc2' hg2 Hk hz hm hb hbel hbX hX HB
        generalize cfL l[m] l[j] = r at HC hr0 hr
        generalize l[j] = x at *
        generalize l[m] = y at *
        go_wp2_with fail
        rw [← HX.out]
        refine wp_region_quiet_below (by kernel_rfl) (by kernel_rfl) ?_
        repeat (refine @wpQuiet_step _ _ _ _ _ _ _ ?_; intro K hK; go_simp; first | (refine hK _ ?_; clear hK K) | (apply Exists.intro; refine ⟨fun _ => ?_, hK _ ?_⟩; (first | (go_at_call 53; exact Calls.below_of (HN.out _)) | (go_at_call 54; exact Calls.below_of (HC.out _))); clear hK K))
        refine wpQuiet_nil ?_
        intro _ hw'
        obtain ⟨p, rfl⟩ := hw'
        go_wp2_with fail
        go_roundw
        case rel => exact ⟨j + 1, by omega, by go_num, Hg.out, HW2.out p⟩
        case measure => simp [intOf]; omega
      · rw [decide_eq_false hr] at hb
        have Hf := Lib.hid (Hno.out fun h2 => by
          have := (h2 j hlt hlt).2 m hm
          rw [← hb] at this; cases this)
        have hr0 : (0 : Int) ≤ cfL l[m] l[j] := by omega
        clear hP Hno Hyes hgood hls hus hc hg hwf hls2 hus2 hc2' hg2 Hk hz hm hb hbel hbX hX HB
        generalize cfL l[m] l[j] = r at HC hr0 hr
        generalize l[j] = x at *
        generalize l[m] = y at *
        go_wp2_with fail
        rw [← HX.out]
        refine wp_region_quiet_below (by kernel_rfl) (by kernel_rfl) ?_
        repeat (refine @wpQuiet_step _ _ _ _ _ _ _ ?_; intro K hK; go_simp; first | (refine hK _ ?_; clear hK K) | (apply Exists.intro; refine ⟨fun _ => ?_, hK _ ?_⟩; (first | (go_at_call 53; exact Calls.below_of (HN.out _)) | (go_at_call 54; exact Calls.below_of (HC.out _))); clear hK K))
        refine wpQuiet_nil ?_
        intro _ hw'
        obtain ⟨p, rfl⟩ := hw'
        go_wp2_with fail
        go_ret
        exact ⟨by rw [Hf.out]; rfl, HW2.out p⟩
    · obtain rfl : j = l.length := by omega
      have Hf := Lib.hid (Hyes.out hgood.out)
      clear hgood hbel
      go_wp2_with fail
      go_ret
      exact ⟨by rw [Hf.out]; rfl, Hbel.out⟩
end Go.Proofs.YtcfbkfmkjggcdaaDoor.lab
namespace Go.Proofs.YtcfbkfmkjggcdaaDoor.lab
open Go.ChangeShapes Go.WideShapes Go.ChangeAt Go.RowKit ty
set_option linter.unusedVariables false

set_option maxRecDepth 100000 in
set_option maxHeartbeats 8000000 in
theorem impl_labels_any (l : List Label) (f : Nat) (v : Value) (w : World) (h : Lies w f v (.sl 2 l.length (l.flatMap Label.row))) :
    Calls Tryd.prog 27 #[v] w fun e w' => e = .returned (.bool (yes (LabelsP l))) ∧ Below w.heap.size w w' := by
  have HA := Lib.hid (impl_ascLabel l f v w h)
  obtain ⟨A, c, rfl, hc1, hc2, _⟩ := els_of Label.row_length h
  unfold maxLen at hc2
  by_cases h6 : 6 < l.length
  · have Hf := Lib.hid (yes_f (p := LabelsP l) (fun h => by have := h.1; omega))
    clear h HA
    go_enter Tryd.func27, Tryd.ntmps27
    go_wp2_with fail
    go_ret
    exact ⟨by rw [Hf.out]; rfl, Below.refl _ _⟩
  have He : Hid (yes (LabelsP l) = yes (taint.GoodL LabEl lessK l l.length)) := by
    unfold Hid
    congr 1
    exact propext ⟨fun h => (goodTo_iff l _).2 h.2, fun h => ⟨by omega, (goodTo_iff l _).1 h⟩⟩
  rw [He.out]
  clear He h
  generalize yes (taint.GoodL LabEl lessK l l.length) = R at HA ⊢
  go_enter Tryd.func27, Tryd.ntmps27
  go_wp2_with fail
  refine HA.out.mono ?_
  rintro e w1 ⟨rfl, hb⟩
  go_wp2_with fail
  go_ret
  exact ⟨rfl, hb⟩
theorem impl_labels (l : List Label) (f : Nat) (v : Value) (w : World) (h : Lies w f v (.sl 2 l.length (l.flatMap Label.row))) (hz : Small l) :
    Calls Tryd.prog 27 #[v] w fun e w' => e = .returned (.bool (yes (LabelsP l))) ∧ Below w.heap.size w w' := impl_labels_any l f v w h
end Go.Proofs.YtcfbkfmkjggcdaaDoor.lab
namespace Go.Proofs.YtcfbkfmkjggcdaaDoor.need
open Go.ChangeShapes Go.WideShapes Go.ChangeAt Go.RowKit ty lab
set_option linter.unusedVariables false

/-- The first of them that is not 0. -/
def orL : List Int → Int
  | [] => 0
  | a :: r => if a = 0 then orL r else a
theorem orL_at : ∀ {l : List Int} {k : Nat} (h : k < l.length), (∀ j (hj : j < k), (l[j]'(by omega)) = 0) → l[k] ≠ 0 → orL l = l[k]
  | [], _, h, _, _ => by simp at h
  | a :: r, 0, _, _, hne => by rw [orL, if_neg (by simpa using hne)]; rfl
  | a :: r, k + 1, h, hz, hne => by
    have h0 : a = 0 := hz 0 (by omega)
    rw [orL, if_pos h0, List.getElem_cons_succ]
    exact orL_at (k := k) (by simpa using h) (fun j hj => by have := hz (j + 1) (by omega); simpa using this) (by simpa using hne)
theorem orL_none : ∀ {l : List Int}, (∀ j (hj : j < l.length), l[j] = 0) → orL l = 0
  | [], _ => rfl
  | a :: r, h => by
    have h0 : a = 0 := h 0 (by simp)
    rw [orL, if_pos h0]
    exact orL_none fun j hj => by have := h (j + 1) (by simpa using hj); simpa using this
theorem orL_three (a b c : Int) : orL [a, b, c] = orI a b c := by
  unfold orI
  simp only [orL]
  split
  · split
    · split
      · next h => exact h.symm
      · rfl
    · rfl
  · rfl
set_option maxRecDepth 100000 in
theorem impl_or (l : List Int) (A : Option Addr) (c : Nat) (w : World) (hn : l.length ≤ 1000) (h : Rd w A l.length (icells l)) :
    Calls Tryd.prog 80 #[.slice A l.length c] w fun e w' => e = .returned (.int .i64 (orL l)) ∧ w = w' := by
  obtain ⟨R, hR⟩ : ∃ R, orL l = R := ⟨_, rfl⟩
  rw [hR]
  have Hat : Hid (∀ k (h : k < l.length), (∀ j (hj : j < k), (l[j]'(by omega)) = 0) → l[k] ≠ 0 → R = l[k]) := fun k h1 h2 h3 => by rw [← hR]; exact orL_at h1 h2 h3
  have Hno : Hid ((∀ j (hj : j < l.length), l[j] = 0) → R = 0) := fun h => by rw [← hR]; exact orL_none h
  have Hr := Lib.hid h
  clear h hR
  go_enter Tryd.func80, Tryd.ntmps80
  go_wp2_with fail
  go_loop [8] (fun i => ∃ j : Nat, j ≤ l.length ∧ i = .int .i64 j ∧ Hid (∀ q (h1 : q < l.length), q < j → l[q] = 0)) (fun i => l.length - (intOf i).toNat)
  case atStart => exact ⟨0, Nat.zero_le _, rfl, fun q _ hq => by omega⟩
  case round =>
    obtain ⟨j, hj, rfl, hall⟩ := hrel
    by_cases hlt : j < l.length
    · obtain ⟨g, o, rfl, hg, hc⟩ := Hr.out.2 (by omega)
      have q0 := hc j hlt _ (icells_get l j hlt)
      rw [show l.getD j 0 = l[j] by rw [List.getD_eq_getElem?_getD, List.getElem?_eq_getElem hlt]; rfl] at q0
      by_cases hz : l[j] = 0
      · have Hn : Hid (∀ q (h1 : q < l.length), q < j + 1 → l[q] = 0) := fun q h1 hq => by
          by_cases e : q = j
          · subst e; exact hz
          · exact hall.out q h1 (by omega)
        rw [hz] at q0
        clear hz Hat Hno hall hc hg
        go_wp2_with fail
        go_round
        case rel => exact ⟨j + 1, by omega, by go_num, Hn.out⟩
        case measure => simp [intOf]; omega
      · have Hf := Lib.hid (Hat.out j hlt (fun q hq => hall.out q (by omega) hq) hz)
        have hne : (l[j] != 0) = true := bne_iff_ne.2 hz
        clear hz Hat Hno hall hc hg
        generalize l[j] = x at q0 Hf hne
        go_wp2_with fail
        go_ret
        exact ⟨by rw [Hf.out]; rfl, rfl⟩
    · obtain rfl : j = l.length := by omega
      have Hf := Lib.hid (Hno.out (fun q h1 => hall.out q h1 h1))
      clear Hat Hno hall
      go_wp2_with fail
      go_ret
      exact ⟨by rw [Hf.out]; rfl, rfl⟩
theorem cell_gr {a b : World} {p : Addr} {v : Value} (h : a.cell? p = some v) (g : Gr a b) : b.cell? p = some v := (World.cell?_of_block (g.below.block _ (World.block_lt_of_cell? _ _ h))).trans h
theorem rd_three (w : World) (a b c : Int) (t : TypeId) : Rd (w.alloc (.cells #[.int .i64 a, .int .i64 b, .int .i64 c] t)) (some ⟨w.heap.size, 0, none⟩) 3 (icells [a, b, c]) := by
  refine ⟨rfl, fun _ => ⟨_, _, rfl, by simp, fun j hj u hu => ?_⟩⟩
  rw [Nat.zero_add, cell_of_row _ _ _ _ _ _ (heap_alloc_new w _)]
  simpa [icells] using hu
end Go.Proofs.YtcfbkfmkjggcdaaDoor.need
namespace Go.Proofs.YtcfbkfmkjggcdaaDoor.taint
open Go.ChangeShapes Go.WideShapes Go.ChangeAt Go.RowKit ty lab need
set_option linter.unusedVariables false

set_option maxRecDepth 100000 in
set_option maxHeartbeats 4000000 in
theorem impl_lab (a b : ByteArray) (n : Int) (w : World) (ha : a.size ≤ maxLen) (hb : b.size ≤ maxLen) :
    Calls Tryd.prog 85 #[.agg #[.string a, .string b, .int .i64 n]] w fun e w' => e = .returned (.bool (yes (KeyP a ∧ ValP b))) ∧ Below w.heap.size w w' := by
  have HL := Lib.hid (fun w' => impl_label ⟨a, b⟩ w' ⟨ha, hb⟩)
  simp only at HL
  generalize yes (KeyP a ∧ ValP b) = R at HL
  clear ha hb
  go_enter Tryd.func85, Tryd.ntmps85
  go_wp2_with fail
  refine (HL.out _).mono ?_
  rintro e w1 ⟨rfl, hb⟩
  go_wp2_with fail
  go_ret
  exact ⟨rfl, (Below.refl _ _).alloc (Nat.le_refl _) _ |>.trans (hb.mono (by simp))⟩
set_option maxRecDepth 100000 in
theorem impl_eff (a b : ByteArray) (n : Int) (w : World) :
    Calls Tryd.prog 84 #[.agg #[.string a, .string b, .int .i64 n]] w fun e w' => e = .returned (.bool (yes (1 ≤ n ∧ n ≤ 2))) ∧ Below w.heap.size w w' := by
  have Hb : Hid (∀ o : Obj, Below w.heap.size w (w.alloc o)) := fun o => (Below.refl _ _).alloc (Nat.le_refl _) o
  by_cases h1 : n = 1
  · rw [yes_t (by omega)]
    subst h1
    go_enter Tryd.func84, Tryd.ntmps84
    go_wp2_with fail
    go_ret
    exact ⟨rfl, Hb.out _⟩
  have e1 : (n == 1) = false := beq_eq_false_iff_ne.2 h1
  by_cases h2 : n = 2
  · rw [yes_t (by omega)]
    subst h2
    clear h1 e1
    go_enter Tryd.func84, Tryd.ntmps84
    go_wp2_with fail
    go_ret
    exact ⟨rfl, Hb.out _⟩
  have e2 : (n == 2) = false := beq_eq_false_iff_ne.2 h2
  rw [yes_f (by omega)]
  clear h1 h2
  go_enter Tryd.func84, Tryd.ntmps84
  go_wp2_with fail
  go_ret
  exact ⟨rfl, Hb.out _⟩
end Go.Proofs.YtcfbkfmkjggcdaaDoor.taint
namespace Go.Proofs.YtcfbkfmkjggcdaaDoor.taint
open Go.ChangeShapes Go.WideShapes Go.ChangeAt Go.RowKit ty lab
set_option linter.unusedVariables false

set_option maxRecDepth 100000 in
theorem impl_ft (x : Taint) (w : World) :
    Calls Tryd.prog 89 #[.agg #[.string x.key, .string x.value, .int .i64 x.effect]] w fun e w' => e = .returned (.agg #[.string x.key, .string x.value, .int .i64 x.effect]) ∧ Gr w w' := by
  obtain ⟨key, value, effect⟩ := x
  have Hg : Hid (∀ a b : Obj, Gr w ((w.alloc a).alloc b)) := fun a b => ((Gr.refl w).alloc a).alloc b
  go_enter Tryd.func89, Tryd.ntmps89
  go_wp2_with fail
  refine bodyPost_ret (v := .agg #[.string key, .string value, .int .i64 effect]) ?_ rfl ⟨rfl, Hg.out _ _⟩
  have hrow := heap_alloc_new (w.alloc (.cells #[.string key, .string value, .int .i64 effect] 100)) (.cells #[.string key, .string value, .int .i64 effect] 124)
  have hs : (w.alloc (.cells #[.string key, .string value, .int .i64 effect] 100)).heap.size = w.heap.size + 1 := by simp
  rw [hs] at hrow
  exact results_cell_row rfl _ _ (w.heap.size + 1) _ #[.string key, .string value, .int .i64 effect] (0, 0) _ rfl hrow Tryd.underlying124 rfl (by kernel_rfl)
set_option maxRecDepth 100000 in
theorem impl_fo (x : Tolerance) (w : World) :
    Calls Tryd.prog 83 #[.agg #[.string x.key, .bool x.equal, .string x.value, .int .i64 x.effect]] w fun e w' => e = .returned (.agg #[.string x.key, .string x.value, .int .i64 x.effect, .bool x.equal]) ∧ Gr w w' := by
  obtain ⟨key, equal, value, effect⟩ := x
  have Hg : Hid (∀ a b : Obj, Gr w ((w.alloc a).alloc b)) := fun a b => ((Gr.refl w).alloc a).alloc b
  go_enter Tryd.func83, Tryd.ntmps83
  go_wp2_with fail
  refine bodyPost_ret (v := .agg #[.string key, .string value, .int .i64 effect, .bool equal]) ?_ rfl ⟨rfl, Hg.out _ _⟩
  have hrow := heap_alloc_new (w.alloc (.cells #[.string key, .bool equal, .string value, .int .i64 effect] 82)) (.cells #[.string key, .string value, .int .i64 effect, .bool equal] 117)
  have hs : (w.alloc (.cells #[.string key, .bool equal, .string value, .int .i64 effect] 82)).heap.size = w.heap.size + 1 := by simp
  rw [hs] at hrow
  exact results_cell_row rfl _ _ (w.heap.size + 1) _ #[.string key, .string value, .int .i64 effect, .bool equal] (0, 0) _ rfl hrow Tryd.underlying117 rfl (by kernel_rfl)
theorem impl_fl (a b : Bool) (w : World) : Calls Tryd.prog 86 #[.bool a, .bool b] w fun e w' => e = .returned (.int .i64 (cmpY a b)) ∧ w = w' := by
  cases a <;> cases b <;>
  · go_enter Tryd.func86, Tryd.ntmps86
    go_wp2_with fail
    go_ret
    exact ⟨rfl, rfl⟩
end Go.Proofs.YtcfbkfmkjggcdaaDoor.taint
namespace Go.Proofs.YtcfbkfmkjggcdaaDoor.taint
open Go.ChangeShapes Go.WideShapes Go.ChangeAt Go.RowKit ty lab need
set_option linter.unusedVariables false

/-- Two boxes of three cells stand. -/
def Six (w : World) (u0 u1 u2 v0 v1 v2 : Value) (w' : World) : Prop := Gr w w' ∧ w'.cell? ⟨w.heap.size, 0, none⟩ = some u0 ∧ w'.cell? ⟨w.heap.size, 1, none⟩ = some u1 ∧ w'.cell? ⟨w.heap.size, 2, none⟩ = some u2 ∧ w'.cell? ⟨w.heap.size + 1, 0, none⟩ = some v0 ∧ w'.cell? ⟨w.heap.size + 1, 1, none⟩ = some v1 ∧ w'.cell? ⟨w.heap.size + 1, 2, none⟩ = some v2
theorem Six.keep {w a b : World} {u0 u1 u2 v0 v1 v2 : Value} (h : Six w u0 u1 u2 v0 v1 v2 a) (g : Gr a b) : Six w u0 u1 u2 v0 v1 v2 b :=
  ⟨h.1.trans g, cell_gr h.2.1 g, cell_gr h.2.2.1 g, cell_gr h.2.2.2.1 g, cell_gr h.2.2.2.2.1 g, cell_gr h.2.2.2.2.2.1 g, cell_gr h.2.2.2.2.2.2 g⟩
set_option maxRecDepth 100000 in
set_option maxHeartbeats 8000000 in
theorem impl_common (k1 a1 : ByteArray) (n1 : Int) (k2 a2 : ByteArray) (n2 : Int) (w : World) :
    Calls Tryd.prog 87 #[.agg #[.string k1, .string a1, .int .i64 n1], .agg #[.string k2, .string a2, .int .i64 n2]] w fun e w' => e = .returned (.int .i64 (orI (cmpB k1 k2) (cmpB a1 a2) (arith.cmpF n1 n2))) ∧ Gr w w' := by
  obtain ⟨W, hW⟩ : ∃ W, W = (w.alloc (.cells #[.string k1, .string a1, .int .i64 n1] 115)).alloc (.cells #[.string k2, .string a2, .int .i64 n2] 115) := ⟨_, rfl⟩
  have hgr : Gr w W := by rw [hW]; exact ((Gr.refl w).alloc _).alloc _
  have hb1 : W.heap[w.heap.size]? = some (.cells #[.string k1, .string a1, .int .i64 n1] 115 (0, 0)) := by
    rw [hW, Below.heap_alloc _ _ _ (by simp)]
    exact heap_alloc_new w _
  have hb2 : W.heap[w.heap.size + 1]? = some (.cells #[.string k2, .string a2, .int .i64 n2] 115 (0, 0)) := by
    rw [hW]
    have h := heap_alloc_new (w.alloc (.cells #[.string k1, .string a1, .int .i64 n1] 115)) (.cells #[.string k2, .string a2, .int .i64 n2] 115)
    simpa using h
  have p0 : W.cell? ⟨w.heap.size, 0, none⟩ = some (.string k1) := by rw [cell_of_row _ _ _ _ _ _ hb1]; rfl
  have p1 : W.cell? ⟨w.heap.size, 1, none⟩ = some (.string a1) := by rw [cell_of_row _ _ _ _ _ _ hb1]; rfl
  have p2 : W.cell? ⟨w.heap.size, 2, none⟩ = some (.int .i64 n1) := by rw [cell_of_row _ _ _ _ _ _ hb1]; rfl
  have q0 : W.cell? ⟨w.heap.size + 1, 0, none⟩ = some (.string k2) := by rw [cell_of_row _ _ _ _ _ _ hb2]; rfl
  have q1 : W.cell? ⟨w.heap.size + 1, 1, none⟩ = some (.string a2) := by rw [cell_of_row _ _ _ _ _ _ hb2]; rfl
  have q2 : W.cell? ⟨w.heap.size + 1, 2, none⟩ = some (.int .i64 n2) := by rw [cell_of_row _ _ _ _ _ _ hb2]; rfl
  have HS := Lib.hid (fun a b w' => Tryd.strings_Compare a b w')
  have HI := Lib.hid (fun w' => arith.impl_cmp n1 n2 w')
  have hc1 : Lib.compareBytes k1.data.toList k2.data.toList = cmpB k1 k2 := rfl
  have hc2 : Lib.compareBytes a1.data.toList a2.data.toList = cmpB a1 a2 := rfl
  have HO := Lib.hid (show Calls Tryd.prog 80 #[.slice (some ⟨W.heap.size, 0, none⟩) 3 3] (W.alloc (.cells #[.int .i64 (cmpB k1 k2), .int .i64 (cmpB a1 a2), .int .i64 (arith.cmpF n1 n2)] 3)).drew fun e w' => e = .returned (.int .i64 (orI (cmpB k1 k2) (cmpB a1 a2) (arith.cmpF n1 n2))) ∧ (W.alloc (.cells #[.int .i64 (cmpB k1 k2), .int .i64 (cmpB a1 a2), .int .i64 (arith.cmpF n1 n2)] 3)).drew = w' by
    rw [← orL_three]
    exact impl_or [cmpB k1 k2, cmpB a1 a2, arith.cmpF n1 n2] (some ⟨W.heap.size, 0, none⟩) 3 _ (by simp) ((rd_three W _ _ _ _).drewN 1))
  rw [← hc1, ← hc2] at HO ⊢
  generalize arith.cmpF n1 n2 = b at HI HO ⊢
  have Hgr := Lib.hid hgr
  have HW := Lib.hid hW
  clear hgr hb1 hb2 hc1 hc2
  go_enter Tryd.func87, Tryd.ntmps87
  go_wp2_with fail
  rw [← hW]
  clear hW
  have h6 : Six w (.string k1) (.string a1) (.int .i64 n1) (.string k2) (.string a2) (.int .i64 n2) W := ⟨Hgr.out, p0, p1, p2, q0, q1, q2⟩
  clear p0 p1 p2 q0 q1 q2 HW
  have H6 := Lib.hid h6
  clear h6
  go_region_held3 (fun w' => Gr w w' ∧ w'.cell? ⟨w.heap.size, 0, none⟩ = some (.string k1) ∧ w'.cell? ⟨w.heap.size, 1, none⟩ = some (.string a1) ∧ w'.cell? ⟨w.heap.size, 2, none⟩ = some (.int .i64 n1) ∧ w'.cell? ⟨w.heap.size + 1, 0, none⟩ = some (.string k2) ∧ w'.cell? ⟨w.heap.size + 1, 1, none⟩ = some (.string a2) ∧ w'.cell? ⟨w.heap.size + 1, 2, none⟩ = some (.int .i64 n2)) (first | assumption | exact H6.out.keep (Gr.refl _).drew | exact Six.keep (by assumption) ((Gr.refl _).alloc _) | exact Six.keep (by assumption) (by assumption)) (first | (go_at_call 78; refine (HS.out _ _ _).mono ?_; rintro e w1 ⟨rfl, rfl⟩) | (go_at_call 81; refine (HI.out _).mono ?_; rintro e w1 ⟨rfl, rfl⟩) | (go_at_call 80; refine HO.out.mono ?_; rintro e w1 ⟨rfl, rfl⟩))
  all_goals
    go_wp2_with fail
    go_ret
    exact ⟨rfl, (Hgr.out.alloc _).drew⟩
end Go.Proofs.YtcfbkfmkjggcdaaDoor.taint
namespace Go.Proofs.YtcfbkfmkjggcdaaDoor.ty
open Go.ChangeShapes Go.WideShapes Go.ChangeAt Go.RowKit
set_option linter.unusedVariables false

section
variable {H : Type} {enc : TypeId × Value → H} {w : World} {base : Nat} {sp : Nat → Bool} {held : Bool}

/-- The cells of a row that reads. -/
theorem cells_head {a : Addr} {n : Nat} {cs : List Value} (h : w.cells? base (a.add 0) n = some cs) (hn : 0 < n) : a.spot = none ∧ a.block < w.heap.size := by
  obtain ⟨hb, hl, hc⟩ := World.cells?_some h
  have h0 := hc 0 hn
  rw [List.getElem?_eq_getElem (by omega)] at h0
  have e : (a.add 0).add 0 = a := by simp [Addr.add]
  rw [e] at h0
  exact ⟨World.cell?_spot h0, World.block_lt_of_cell? w _ h0⟩
theorem cells_at {g o : Nat} {i n : Nat} {cs : List Value} (h : w.cells? base ((⟨g, o, none⟩ : Addr).add i) n = some cs) : cs.length = n ∧ ∀ j u, cs[j]? = some u → w.cell? ⟨g, o + (i + j), none⟩ = some u := by
  obtain ⟨hb, hl, hc⟩ := World.cells?_some h
  refine ⟨hl, fun j u hu => ?_⟩
  have := hc j (by have := (List.getElem?_eq_some_iff.1 hu).1; omega)
  rw [Addr.add_lit, Addr.add_lit, Nat.add_assoc, hu] at this
  exact this
/-- A slice whose elements read. -/
theorem lies_slice {P : Program} {t e : TypeId} {sz fuel : Nat} {cs : List Value} {x : DataW H × List MemPlace} {α : Type} [Inhabited α] (f : α → List C) (ht : P.underlying t = some (.slice e)) (hsz : P.cellsOf e = sz) (hpos : 0 < sz) (hf : ∀ a, (f a).length = sz)
    (hel : ∀ n cs' y, n + 1 = fuel → DataW.trod enc P w base sp held n e cs' = some y → ∃ a, LiesS w n cs' (f a)) (h : DataW.trod enc P w base sp held fuel t cs = some x) : ∃ (v : Value) (l : List α), cs = [v] ∧ Lies w fuel v (.sl sz l.length (l.flatMap f)) := by
  rcases DataW.trod_slice ht h with ⟨rfl, _⟩ | ⟨a, len, cap, elems, rest, n, rfl, rfl, _, hb, hl, hm, hlen, hel2, _, _⟩
  · cases fuel with
    | zero => simp [DataW.trod] at h
    | succ n => exact ⟨_, [], rfl, none, 0, rfl, Nat.le_refl _, by simp [maxLen], by simp, fun hn => absurd hn (by simp)⟩
  · rw [hsz] at hel2
    have hone : ∀ i, i < len → ∃ p : List Value × α, w.cells? base (a.add (i * sz)) sz = some p.1 ∧ LiesS w n p.1 (f p.2) := fun i hi => by
      have h1 := hel2 i hi
      rw [List.getElem?_eq_getElem (by omega)] at h1
      obtain ⟨cs', h2, h3⟩ := Option.bind_eq_some_iff.1 h1
      obtain ⟨b, hb⟩ := hel n cs' _ rfl h3
      exact ⟨(cs', b), h2, hb⟩
    obtain ⟨q, hq⟩ := Go.Deep.choose_lt hone
    refine ⟨_, (List.range len).map (fun i => (q i).2), rfl, some a, cap, ?_, ?_, hm, ?_, fun hn => ?_⟩
    · simp
    · simpa using hl
    · rw [flat_length' hf]
    · have hn' : 0 < len := by simpa using hn
      have hq0 := (hq 0 hn').1
      rw [Nat.zero_mul] at hq0
      obtain ⟨h1, h2⟩ := cells_head hq0 hpos
      obtain ⟨g, o, spt⟩ := a
      have hspt : spt = none := h1
      subst hspt
      refine ⟨g, o, rfl, h2, fun m d hd => ?_⟩
      have hm1 : m < len * sz := by
        have := (List.getElem?_eq_some_iff.1 hd).1
        rw [flat_length' hf] at this
        simpa using this
      have hi : m / sz < len := Nat.div_lt_of_lt_mul (by rw [Nat.mul_comm]; exact hm1)
      have hj : m % sz < sz := Nat.mod_lt _ hpos
      have e : m / sz * sz + m % sz = m := by rw [Nat.mul_comm]; exact Nat.div_add_mod m sz
      rw [← e, flat_get' hf _ (m / sz) (m % sz) (q (m / sz)).2 (by simp [hi]) hj] at hd
      obtain ⟨hl2, hcell⟩ := cells_at (hq (m / sz) hi).1
      have hu : (q (m / sz)).1[m % sz]? = some ((q (m / sz)).1[m % sz]'(by omega)) := List.getElem?_eq_getElem (by omega)
      refine ⟨_, ?_, (hq (m / sz) hi).2.2 (m % sz) _ d hu hd⟩
      have := hcell _ _ hu
      rw [e] at this
      exact this
end
end Go.Proofs.YtcfbkfmkjggcdaaDoor.ty
namespace Go.Proofs.YtcfbkfmkjggcdaaDoor.ty
open Go.ChangeShapes Go.WideShapes Go.ChangeAt Go.RowKit
set_option linter.unusedVariables false

instance : Inhabited Label := ⟨⟨⟨#[]⟩, ⟨#[]⟩⟩⟩
theorem csLabel : Tryd.prog.cellsOf 68 = 2 := by kernel_rfl
theorem csLabel_string : Tryd.prog.cellsOf 9 = 1 := by kernel_rfl
section
variable {H : Type} {enc : TypeId × Value → H} {w : World} {base : Nat} {sp : Nat → Bool} {held : Bool}
set_option maxRecDepth 100000 in
theorem trodLabel (fuel : Nat) (cs : List Value) (x : DataW H × List MemPlace) (h : DataW.trod enc Tryd.prog w base sp held fuel 68 cs = some x) : ∃ t : Label, LiesS w fuel cs t.row := by
  obtain ⟨xs, n, rfl, _, hl, hxl, hf⟩ := DataW.trod_struct Tryd.underlying68 h
  rw [csLabel] at hl
  have hxlk : xs.length = 2 := hxl
  obtain ⟨u0, u1, rfl⟩ := of_Label hl
  obtain ⟨y0, y1, rfl⟩ := of_Label hxlk
  have f0 := hf 0 _ rfl
  have f1 := hf 1 _ rfl
  simp only [csLabel_string, List.drop_zero, List.drop_succ_cons, List.take_succ_cons, List.take_zero, List.getElem?_cons_zero, List.getElem?_cons_succ] at f0 f1
  obtain ⟨z0, e0, _, w0⟩ := DataW.trod_string Tryd.underlying9 f0
  obtain ⟨z1, e1, _, w1⟩ := DataW.trod_string Tryd.underlying9 f1
  injection e0 with e0
  injection e1 with e1
  subst e0 e1
  refine ⟨⟨z0, z1⟩, ?_⟩
  cases n with
  | zero => simp [DataW.trod] at f0
  | succ n => exact (Label.lies (f := n) (x := ⟨z0, z1⟩) ⟨w0, w1⟩).deeper (by omega)
set_option maxRecDepth 100000 in
theorem open_LabelS {r : Reach} {b0 : Nat} {v : Value} {d : DataW H} {ps : List MemPlace}
    (hval : Value.okWide Tryd.prog w r b0 22 v) (hd : DataW.Trod enc Tryd.prog w base sp held 22 v d ps) : ∃ (l : List Label) (f : Nat), Lies w f v (.sl 2 l.length (l.flatMap Label.row)) := by
  obtain ⟨A, n, c, rfl⟩ := okWide_slice Tryd.underlying22 hval
  obtain ⟨fuel, hf⟩ := hd
  obtain ⟨v', l, h1, h2⟩ := lies_slice (α := Label) Label.row Tryd.underlying22 csLabel (by decide) Label.row_length (fun n cs' y _ hy => trodLabel n cs' y hy) hf
  have e : v' = .slice A n c := by simpa [Value.cells] using h1.symm
  subst e
  exact ⟨l, fuel, h2⟩
end
end Go.Proofs.YtcfbkfmkjggcdaaDoor.ty
