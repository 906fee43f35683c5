/- Merged: AscV NeedI CmpNI CmpNJ AscN SelI. -/
import Derived.Test.YtcfbkfmkjggcdaaGreatDoorGA2
import Derived.Test.YtcfbkfmkjggcdaaGreatDoorGA14
import Derived.Test.YtcfbkfmkjggcdaaGreatDoorGA1
import Derived.Laws.Cover1
import Derived.Test.YtcfbkfmkjggcdaaGreatDoorShelf
import Derived.Test.YtcfbkfmkjggcdaaGreatDoorGA10
import Derived.Deep.RegionHeld3
import Derived.Test.YtcfbkfmkjggcdaaGreatDoorGA8
namespace Go.Proofs.YtcfbkfmkjggcdaaGreatDoor.need
open Go.ChangeShapes Go.WideShapes Go.ChangeAt Go.RowKit ty lab
set_option linter.unusedVariables false

theorem str_cmp (a b : ByteArray) (w : World) : Calls Tryz.prog 98 #[.string a, .string b] w fun e w' => e = .returned (.int .i64 (cmpB a b)) ∧ w = w' := Tryz.strings_Compare a b w |>.mono fun _ _ ⟨h1, h2⟩ => ⟨h1, h2.symm⟩
set_option maxRecDepth 100000 in
set_option maxHeartbeats 8000000 in
theorem impl_ascV (l : List ByteArray) (f : Nat) (v : Value) (w : World) (h : Lies w f v (.sl 1 l.length (l.flatMap Str.row))) :
    Calls Tryz.prog 212 #[v, .func (.func 205) #[] #[], .func (.func 98) #[] #[]] w fun e w' => e = .returned (.bool (yes (GoodV l l.length))) ∧ Below w.heap.size w w' := by
  obtain ⟨A, c, rfl, hc, hm, hr, hz⟩ := Str.opened h
  unfold maxLen at hm
  obtain ⟨R, hR⟩ : ∃ R, yes (GoodV l l.length) = R := ⟨_, rfl⟩
  rw [hR]
  have Hno : Hid (¬ GoodV l l.length → R = false) := fun h => by rw [← hR]; exact yes_f h
  have Hyes : Hid (GoodV l l.length → R = true) := fun h => by rw [← hR]; exact yes_t h
  have Hr := Lib.hid hr
  have Hz : Hid (∀ j (hj : j < l.length), l[j].size ≤ 9223372036854775807) := fun j hj => by
    have := hz _ (List.getElem_mem hj)
    unfold maxLen at this
    omega
  clear h hr hz hR
  go_enter Tryz.func212, Tryz.ntmps212
  go_wp2_with fail
  go_loopw [11] (fun i wr => ∃ j : Nat, j ≤ l.length ∧ i = .int .i64 j ∧ Hid (GoodV l j) ∧ Below w.heap.size w wr) (fun i _ => l.length - (intOf i).toNat)
  case atStart => exact ⟨0, Nat.zero_le _, rfl, fun i hi hj => by omega, Below.refl _ _⟩
  case round =>
    obtain ⟨j, hj, rfl, hgood, hbel⟩ := hrel
    have Hbel := Lib.hid hbel
    by_cases hlt : j < l.length
    · obtain ⟨g, o, rfl, hg, hc0⟩ := (Hr.out.below hbel).2 (by omega)
      have q0 := hc0 j hlt _ (scells_get l j hlt)
      have HV := Lib.hid (impl_val l[j] wr (Hz.out j hlt))
      by_cases hP : ValP l[j]
      case neg =>
        have Hf := Lib.hid (Hno.out fun h => hP (h j hlt hlt).1)
        rw [yes_f hP] at HV
        clear hP Hno Hyes hgood hc0 hg hbel
        generalize l[j] = x at q0 HV
        go_wp2_with fail
        refine HV.out.mono ?_
        rintro e w1 ⟨rfl, hb⟩
        have G := Lib.hid (below_link Hbel.out hb Hbel.out.size)
        clear hb
        go_wp2_with fail
        go_ret
        exact ⟨by rw [Hf.out]; rfl, G.out⟩
      rw [yes_t hP] at HV
      by_cases hz : j = 0
      · have Hg := Lib.hid (goodV_next hgood.out hlt hP (fun m hm => by omega))
        have hn0 : ¬ (0 : Int) < (j : Int) := by omega
        have hn1 : ¬ 0 < j := by omega
        clear hP Hno Hyes hgood hc0 hg hbel hz
        generalize l[j] = x at q0 HV
        go_wp2_with fail
        refine HV.out.mono ?_
        rintro e w1 ⟨rfl, hb⟩
        have G := Lib.hid (below_link Hbel.out hb Hbel.out.size)
        clear hb
        go_wp2_with fail
        go_roundw
        case rel => exact ⟨j + 1, by omega, by go_num, Hg.out, G.out⟩
        case measure => simp [intOf]; omega
      obtain ⟨m, hm⟩ : ∃ m, m + 1 = j := ⟨j - 1, by omega⟩
      have hml : m < l.length := by omega
      have r0 := hc0 m hml _ (scells_get l m hml)
      have P0 := Lib.hid (fun w' (hb : Below wr.heap.size wr w') => (World.cell?_of_block (hb.block g hg)).trans r0)
      have HC := Lib.hid (fun w' => str_cmp l[m] l[j] w')
      have hmi : (j : Int) - 1 = (m : Int) := by omega
      have hwm : IntKind.i64.wrap (m : Int) = (m : Int) := IntWalk.i64_in _ (by omega)
      have hm0 : (0 : Int) ≤ (m : Int) := by omega
      have hm1 : (m : Int) < (l.length : Int) := by omega
      have hjp : (0 : Int) < (j : Int) := by omega
      have hjp1 : 0 < j := by omega
      have hb := cmpB_less l[m] l[j]
      by_cases hr : cmpB l[m] l[j] < 0
      · rw [decide_eq_true hr] at hb
        have Hg := Lib.hid (goodV_next hgood.out hlt hP (fun m' hm' => by
          obtain rfl : m' = m := by omega
          exact hb.symm))
        have hr0 : ¬ (0 : Int) ≤ cmpB l[m] l[j] := by omega
        clear hP Hno Hyes hgood hc0 hbel hz hb r0 hg hm
        generalize cmpB l[m] l[j] = r at HC hr0 hr
        generalize l[j] = x at q0 HV HC
        generalize l[m] = y at P0 HC
        go_wp2_with fail
        refine HV.out.mono ?_
        rintro e w1 ⟨rfl, hb⟩
        have r0 := P0.out w1 hb
        have G := Lib.hid (below_link Hbel.out hb Hbel.out.size)
        clear hb
        go_wp2_with fail
        refine (HC.out _).mono ?_
        rintro e w2 ⟨rfl, rfl⟩
        go_wp2_with fail
        go_roundw
        case rel => exact ⟨j + 1, by omega, by go_num, Hg.out, G.out⟩
        case measure => simp [intOf]; omega
      · rw [decide_eq_false hr] at hb
        have Hf := Lib.hid (Hno.out fun h => by
          have := (h j hlt hlt).2 m hm
          rw [← hb] at this; cases this)
        have hr0 : (0 : Int) ≤ cmpB l[m] l[j] := by omega
        clear hP Hno Hyes hgood hc0 hbel hz hb r0 hg hm
        generalize cmpB l[m] l[j] = r at HC hr0 hr
        generalize l[j] = x at q0 HV HC
        generalize l[m] = y at P0 HC
        go_wp2_with fail
        refine HV.out.mono ?_
        rintro e w1 ⟨rfl, hb⟩
        have r0 := P0.out w1 hb
        have G := Lib.hid (below_link Hbel.out hb Hbel.out.size)
        clear hb
        go_wp2_with fail
        refine (HC.out _).mono ?_
        rintro e w2 ⟨rfl, rfl⟩
        go_wp2_with fail
        go_ret
        exact ⟨by rw [Hf.out]; rfl, G.out⟩
    · obtain rfl : j = l.length := by omega
      have Hf := Lib.hid (Hyes.out hgood.out)
      clear hgood hbel
      go_wp2_with fail
      go_ret
      exact ⟨by rw [Hf.out]; rfl, Hbel.out⟩
end Go.Proofs.YtcfbkfmkjggcdaaGreatDoor.need
namespace Go.Proofs.YtcfbkfmkjggcdaaGreatDoor.need
open Go.ChangeShapes Go.WideShapes Go.ChangeAt Go.RowKit ty lab
set_option linter.unusedVariables false

set_option maxRecDepth 100000 in
set_option maxHeartbeats 16000000 in
theorem impl_need (x : Need) (f : Nat) (vs : List Value) (w : World) (h : LiesS w f vs x.row) (hw : x.wt ≤ 1048576) :
    Calls Tryz.prog 173 #[.agg vs.toArray] w fun e w' => e = .returned (.bool (yes (NeedP x))) ∧ Below w.heap.size w w' := by
  have hk1 := wt_key x
  have hv1 := wt_vals x
  obtain ⟨key, op, vals⟩ := x
  obtain ⟨A2, c2, rfl, hwf, k2, m2, l2⟩ := Need.opened h
  simp only [Need.Wf] at *
  obtain ⟨w0, w1⟩ := hwf
  obtain ⟨R, hR⟩ : ∃ R, yes (NeedP ⟨key, op, vals⟩) = R := ⟨_, rfl⟩
  rw [hR]
  have Hno : Hid (¬ NeedP ⟨key, op, vals⟩ → R = false) := fun h => by rw [← hR]; exact yes_f h
  have Hyes : Hid (NeedP ⟨key, op, vals⟩ → R = true) := fun h => by rw [← hR]; exact yes_t h
  have HB := Lib.hid (Box.new 69 w [.string key, .int .i64 op, .slice A2 vals.length c2])
  have HK := Lib.hid (fun w => impl_key key w (by omega))
  have HA := Lib.hid (fun w' (hb : Below w.heap.size w w') => impl_ascV vals f _ w' (l2.below hb))
  have hvn : vals.length ≤ 1048576 := by omega
  unfold maxLen at m2
  have p0 := HB.out.cell (j := 0) rfl
  clear h l2 hR w0 hk1 hv1 hw
  by_cases hK : KeyP key
  case neg =>
    have Hf := Lib.hid (Hno.out fun h => hK h.key)
    rw [yes_f hK] at HK
    clear hK Hno Hyes HA
    go_enter Tryz.func173, Tryz.ntmps173
    go_wp2_with fail
    refine (HK.out _).mono ?_
    rintro e x1 ⟨rfl, hb⟩
    have B1 := Lib.hid (HB.out.below hb)
    clear hb
    go_wp2_with fail
    go_ret
    exact ⟨by rw [Hf.out]; rfl, B1.out.1⟩
  rw [yes_t hK] at HK
  by_cases h3 : op = 3 ∨ op = 4
  · by_cases hn : vals.length = 0
    · have Hf := Lib.hid (Hyes.out ⟨hK, by simp only; omega, by simp only; omega, fun _ => hn, fun h => by simp only at h; omega⟩)
      have en : ((vals.length : Int) == 0) = true := by rw [hn]; rfl
      clear hK Hno Hyes HA hn
      rcases h3 with rfl | rfl <;>
      · go_enter Tryz.func173, Tryz.ntmps173
        go_wp2_with fail
        refine (HK.out _).mono ?_
        rintro e x1 ⟨rfl, hb⟩
        have B1 := Lib.hid (HB.out.below hb)
        have p1 := B1.out.cell (j := 1) rfl
        have p2 := B1.out.cell (j := 2) rfl
        clear hb
        go_wp2_with fail
        go_ret
        exact ⟨by rw [Hf.out]; rfl, B1.out.1⟩
    · have Hf := Lib.hid (Hno.out fun h => hn (h.none (by simp only; omega)))
      have en : ((vals.length : Int) == 0) = false := by rw [beq_eq_false_iff_ne]; omega
      clear hK Hno Hyes HA hn
      rcases h3 with rfl | rfl <;>
      · go_enter Tryz.func173, Tryz.ntmps173
        go_wp2_with fail
        refine (HK.out _).mono ?_
        rintro e x1 ⟨rfl, hb⟩
        have B1 := Lib.hid (HB.out.below hb)
        have p1 := B1.out.cell (j := 1) rfl
        have p2 := B1.out.cell (j := 2) rfl
        clear hb
        go_wp2_with fail
        go_ret
        exact ⟨by rw [Hf.out]; rfl, B1.out.1⟩
  by_cases h2 : op = 1 ∨ op = 2
  case neg =>
    have Hf := Lib.hid (Hno.out fun h => by have := h.lo; have := h.hi; simp only at *; omega)
    have e1 : (op == 1) = false := by rw [beq_eq_false_iff_ne]; omega
    have e2 : (op == 2) = false := by rw [beq_eq_false_iff_ne]; omega
    have e3 : (op == 3) = false := by rw [beq_eq_false_iff_ne]; omega
    have e4 : (op == 4) = false := by rw [beq_eq_false_iff_ne]; omega
    clear hK Hno Hyes HA h3 h2
    go_enter Tryz.func173, Tryz.ntmps173
    go_wp2_with fail
    refine (HK.out _).mono ?_
    rintro e x1 ⟨rfl, hb⟩
    have B1 := Lib.hid (HB.out.below hb)
    have p1 := B1.out.cell (j := 1) rfl
    clear hb
    go_wp2_with fail
    go_ret
    exact ⟨by rw [Hf.out]; rfl, B1.out.1⟩
  by_cases hn0 : vals.length = 0
  · have Hf := Lib.hid (Hno.out fun h => by have := (h.some (by simp only; omega)).1; simp only at this; omega)
    have g0 : ¬ (0 : Int) < (vals.length : Int) := by omega
    have g1 : ¬ 0 < vals.length := by omega
    clear hK Hno Hyes HA h3 hn0
    rcases h2 with rfl | rfl <;>
    · go_enter Tryz.func173, Tryz.ntmps173
      go_wp2_with fail
      refine (HK.out _).mono ?_
      rintro e x1 ⟨rfl, hb⟩
      have B1 := Lib.hid (HB.out.below hb)
      have p1 := B1.out.cell (j := 1) rfl
      have p2 := B1.out.cell (j := 2) rfl
      clear hb
      go_wp2_with fail
      go_ret
      exact ⟨by rw [Hf.out]; rfl, B1.out.1⟩
  have g0 : (0 : Int) < (vals.length : Int) := by omega
  have g1 : 0 < vals.length := by omega
  by_cases hn4 : vals.length ≤ 4
  case neg =>
    have Hf := Lib.hid (Hno.out fun h => by have := (h.some (by simp only; omega)).2.1; simp only at this; omega)
    have g2 : ¬ (vals.length : Int) ≤ 4 := by omega
    clear hK Hno Hyes HA h3 hn0
    rcases h2 with rfl | rfl <;>
    · go_enter Tryz.func173, Tryz.ntmps173
      go_wp2_with fail
      refine (HK.out _).mono ?_
      rintro e x1 ⟨rfl, hb⟩
      have B1 := Lib.hid (HB.out.below hb)
      have p1 := B1.out.cell (j := 1) rfl
      have p2 := B1.out.cell (j := 2) rfl
      clear hb
      go_wp2_with fail
      go_ret
      exact ⟨by rw [Hf.out]; rfl, B1.out.1⟩
  have g2 : (vals.length : Int) ≤ 4 := by omega
  have Hf : Hid (R = yes (GoodV vals vals.length)) := by
    by_cases hg : GoodV vals vals.length
    · rw [yes_t hg]
      exact Hyes.out ⟨hK, by simp only; omega, by simp only; omega, fun h => by simp only at h; omega, fun _ => ⟨by simp only; omega, by simp only; omega, hg⟩⟩
    · rw [yes_f hg]
      exact Hno.out fun h => hg (h.some (by simp only; omega)).2.2
  clear hK Hno Hyes h3 hn0
  generalize yes (GoodV vals vals.length) = b at Hf HA
  rcases h2 with rfl | rfl <;>
  · go_enter Tryz.func173, Tryz.ntmps173
    go_wp2_with fail
    refine (HK.out _).mono ?_
    rintro e x1 ⟨rfl, hb⟩
    have B1 := Lib.hid (HB.out.below hb)
    have p1 := B1.out.cell (j := 1) rfl
    have p2 := B1.out.cell (j := 2) rfl
    clear hb
    go_wp2_with fail
    refine (HA.out _ B1.out.1).mono ?_
    rintro e x2 ⟨rfl, hb⟩
    have B2 := Lib.hid (B1.out.below hb)
    clear hb
    go_wp2_with fail
    go_ret
    exact ⟨by rw [Hf.out]; rfl, B2.out.1⟩
end Go.Proofs.YtcfbkfmkjggcdaaGreatDoor.need
namespace Go.Proofs.YtcfbkfmkjggcdaaGreatDoor.need
open Go.ChangeShapes Go.WideShapes Go.ChangeAt Go.RowKit ty lab
set_option linter.unusedVariables false

theorem str_self (x : ByteArray) : (x.toList == x.toList) = true := beq_self_eq_true _
theorem isnan (x : ByteArray) (w : World) :
    Calls Tryz.prog 244 #[.string x] w fun e w' => e = .returned (.bool false) ∧ w = w' := by
  have h1 := str_self x
  go_enter Tryz.func244, Tryz.ntmps244
  go_wp2_with fail
  go_ret
  exact ⟨rfl, rfl⟩
theorem impl_cmpS (x y : ByteArray) (w : World) :
    Calls Tryz.prog 211 #[.string x, .string y] w fun e w' => e = .returned (.int .i64 (cmpB x y)) ∧ w = w' := by
  have H1 := Lib.hid (isnan x)
  have H2 := Lib.hid (isnan y)
  have hbd := bd_cmpL x.data.toList y.data.toList
  have hw := cmpB_way x y
  unfold cmpB at hw
  have hc : Lib.compareBytes x.data.toList y.data.toList = cmpB x y := rfl
  rw [← hc]
  clear hc
  generalize Lib.compareBytes x.data.toList y.data.toList = r at hbd hw
  rcases hw with ⟨h0, rfl⟩ | ⟨h0, _, h3⟩ | ⟨h0, hne, h3⟩
  · subst h0
    have a1 : Op.bytesLess x.toList x.toList = false := lessB_irr x
    clear hbd
    go_enter Tryz.func211, Tryz.ntmps211
    go_wp2_with fail
    refine (H1.out _).mono ?_
    rintro e w1 ⟨rfl, rfl⟩
    go_wp2_with fail
    refine (H2.out _).mono ?_
    rintro e w1 ⟨rfl, rfl⟩
    go_wp2_with fail
    go_ret
    exact ⟨rfl, rfl⟩
  · obtain rfl : r = -1 := by omega
    have a1 : Op.bytesLess x.toList y.toList = true := h3
    clear hbd h3 h0
    go_enter Tryz.func211, Tryz.ntmps211
    go_wp2_with fail
    refine (H1.out _).mono ?_
    rintro e w1 ⟨rfl, rfl⟩
    go_wp2_with fail
    refine (H2.out _).mono ?_
    rintro e w1 ⟨rfl, rfl⟩
    go_wp2_with fail
    go_ret
    exact ⟨rfl, rfl⟩
  · obtain rfl : r = 1 := by omega
    have a1 : Op.bytesLess x.toList y.toList = false := h3
    have a2 : Op.bytesLess y.toList x.toList = true := by
      cases h : Op.bytesLess y.toList x.toList with
      | true => rfl
      | false => exact absurd (key_same a1 h) hne
    have a3 := same_no hne
    clear hbd h3 h0 hne
    go_enter Tryz.func211, Tryz.ntmps211
    go_wp2_with fail
    refine (H1.out _).mono ?_
    rintro e w1 ⟨rfl, rfl⟩
    go_wp2_with fail
    refine (H2.out _).mono ?_
    rintro e w1 ⟨rfl, rfl⟩
    go_wp2_with fail
    go_ret
    exact ⟨rfl, rfl⟩
set_option maxRecDepth 100000 in
set_option maxHeartbeats 4000000 in
theorem impl_cmpV (a b : List ByteArray) (f1 f2 : Nat) (v1 v2 : Value) (w : World) (h1 : Lies w f1 v1 (.sl 1 a.length (a.flatMap Str.row))) (h2 : Lies w f2 v2 (.sl 1 b.length (b.flatMap Str.row))) :
    Calls Tryz.prog 171 #[v1, v2] w fun e w' => e = .returned (.int .i64 (cmpV a b)) ∧ w = w' := by
  obtain ⟨A1, c1, rfl, hc1, hm1, hr1, _⟩ := Str.opened h1
  obtain ⟨A2, c2, rfl, hc2, hm2, hr2, _⟩ := Str.opened h2
  unfold maxLen at hm1 hm2
  obtain ⟨R, hR⟩ : ∃ R, cmpV a b = R := ⟨_, rfl⟩
  rw [hR]
  have Hat : Hid (∀ k (h1 : k < a.length) (h2 : k < b.length), (∀ j (hj : j < k), (a[j]'(by omega)) = (b[j]'(by omega))) → cmpB a[k] b[k] ≠ 0 → R = cmpB a[k] b[k]) := fun k h1 h2 h3 h4 => by rw [← hR]; exact cmpV_at h1 h2 h3 h4
  have Hend : Hid ((∀ j (h1 : j < a.length) (h2 : j < b.length), a[j] = b[j]) → R = if b.length < a.length then 1 else if a.length < b.length then -1 else 0) := fun h => by rw [← hR]; exact cmpV_end h
  have Hr1 := Lib.hid hr1
  have Hr2 := Lib.hid hr2
  clear h1 h2 hr1 hr2 hR
  go_enter Tryz.func171, Tryz.ntmps171
  go_wp2_with fail
  go_loop [11] (fun i => ∃ j : Nat, j ≤ a.length ∧ i = .int .i64 j ∧ j ≤ b.length ∧ Hid (∀ q (h1 : q < a.length) (h2 : q < b.length), q < j → a[q] = b[q])) (fun i => a.length - (intOf i).toNat)
  case atStart => exact ⟨0, Nat.zero_le _, rfl, Nat.zero_le _, fun q _ _ hq => by omega⟩
  case round =>
    obtain ⟨j, hj, rfl, hjb, hall⟩ := hrel
    by_cases hlt : j < a.length
    · obtain ⟨g1, o1, rfl, hg1, hc01⟩ := Hr1.out.2 (by omega)
      have q0 := hc01 j hlt _ (scells_get a j hlt)
      by_cases hlb : j < b.length
      · obtain ⟨g2, o2, rfl, hg2, hc02⟩ := Hr2.out.2 (by omega)
        have q1 := hc02 j hlb _ (scells_get b j hlb)
        have n1 : ¬ (b.length : Int) ≤ (j : Int) := by omega
        have HC := Lib.hid (impl_cmpS a[j] b[j])
        by_cases hz : cmpB a[j] b[j] = 0
        · have Hn : Hid (∀ q (h1 : q < a.length) (h2 : q < b.length), q < j + 1 → a[q] = b[q]) := fun q h1 h2 hq => by
            by_cases e : q = j
            · subst e; exact cmpB_zero hz
            · exact hall.out q h1 h2 (by omega)
          rw [hz] at HC
          clear hz Hat Hend hall hc01 hc02 hg1 hg2
          generalize a[j] = x at q0 HC
          generalize b[j] = y at q1 HC
          go_wp2_with fail
          refine (HC.out _).mono ?_
          rintro e w1 ⟨rfl, rfl⟩
          go_wp2_with fail
          go_round
          case rel => exact ⟨j + 1, by omega, by go_num, by omega, Hn.out⟩
          case measure => simp [intOf]; omega
        · have Hf := Lib.hid (Hat.out j hlt hlb (fun q hq => hall.out q (by omega) (by omega) hq) hz)
          have hne : (cmpB a[j] b[j] != 0) = true := bne_iff_ne.2 hz
          clear hz Hat Hend hall hc01 hc02 hg1 hg2
          generalize cmpB a[j] b[j] = r at HC Hf hne
          generalize a[j] = x at q0 HC
          generalize b[j] = y at q1 HC
          go_wp2_with fail
          refine (HC.out _).mono ?_
          rintro e w1 ⟨rfl, rfl⟩
          go_wp2_with fail
          go_ret
          exact ⟨by rw [Hf.out]; rfl, rfl⟩
      · obtain rfl : j = b.length := by omega
        have Hf := Lib.hid (Hend.out (fun q h1 h2 => hall.out q h1 h2 h2))
        rw [if_pos hlt] at Hf
        have n1 : (b.length : Int) ≤ (b.length : Int) := Int.le_refl _
        clear Hat Hend hall hc01 hg1
        generalize a[b.length] = x at q0
        go_wp2_with fail
        go_ret
        exact ⟨by rw [Hf.out]; rfl, rfl⟩
    · obtain rfl : j = a.length := by omega
      have Hf := Lib.hid (Hend.out (fun q h1 h2 => hall.out q h1 h2 h1))
      rw [if_neg (by omega)] at Hf
      clear Hat Hend hall
      by_cases hl : a.length < b.length
      · rw [if_pos hl] at Hf
        have n2 : (a.length : Int) < (b.length : Int) := by omega
        go_wp2_with fail
        go_ret
        exact ⟨by rw [Hf.out]; rfl, rfl⟩
      · rw [if_neg hl] at Hf
        have n2 : ¬ (a.length : Int) < (b.length : Int) := by omega
        go_wp2_with fail
        go_ret
        exact ⟨by rw [Hf.out]; rfl, rfl⟩
end Go.Proofs.YtcfbkfmkjggcdaaGreatDoor.need
namespace Go.Proofs.YtcfbkfmkjggcdaaGreatDoor.need
open Go.ChangeShapes Go.WideShapes Go.ChangeAt Go.RowKit ty lab
set_option linter.unusedVariables false

/-- The two boxes stand: their cells. -/
def Six (w : World) (u0 u1 u2 v0 v1 v2 : Value) (w' : World) : Prop := Gr w w' ∧ w'.cell? ⟨w.heap.size, 0, none⟩ = some u0 ∧ w'.cell? ⟨w.heap.size, 1, none⟩ = some u1 ∧ w'.cell? ⟨w.heap.size, 2, none⟩ = some u2 ∧ w'.cell? ⟨w.heap.size + 1, 0, none⟩ = some v0 ∧ w'.cell? ⟨w.heap.size + 1, 1, none⟩ = some v1 ∧ w'.cell? ⟨w.heap.size + 1, 2, none⟩ = some v2
theorem Six.keep {w a b : World} {u0 u1 u2 v0 v1 v2 : Value} (h : Six w u0 u1 u2 v0 v1 v2 a) (g : Gr a b) : Six w u0 u1 u2 v0 v1 v2 b :=
  ⟨h.1.trans g, cell_gr h.2.1 g, cell_gr h.2.2.1 g, cell_gr h.2.2.2.1 g, cell_gr h.2.2.2.2.1 g, cell_gr h.2.2.2.2.2.1 g, cell_gr h.2.2.2.2.2.2 g⟩
set_option maxRecDepth 100000 in
set_option maxHeartbeats 8000000 in
theorem cmp_gr (x y : Need) (f1 f2 : Nat) (us vs : List Value) (w : World) (h1 : LiesS w f1 us x.row) (h2 : LiesS w f2 vs y.row) :
    Calls Tryz.prog 100 #[.agg us.toArray, .agg vs.toArray] w fun e w' => e = .returned (.int .i64 (cmpN x y)) ∧ Gr w w' := by
  obtain ⟨k1, o1, l1⟩ := x
  obtain ⟨k2, o2, l2⟩ := y
  obtain ⟨A1, c1, rfl, _, n1, m1, r1⟩ := Need.opened h1
  obtain ⟨A2, c2, rfl, _, n2, m2, r2⟩ := Need.opened h2
  unfold cmpN
  simp only at *
  obtain ⟨W, hW⟩ : ∃ W, W = (w.alloc (.cells #[.string k1, .int .i64 o1, .slice A1 l1.length c1] 69)).alloc (.cells #[.string k2, .int .i64 o2, .slice A2 l2.length c2] 69) := ⟨_, rfl⟩
  have hgr : Gr w W := by rw [hW]; exact ((Gr.refl w).alloc _).alloc _
  have hb1 : W.heap[w.heap.size]? = some (.cells #[.string k1, .int .i64 o1, .slice A1 l1.length c1] 69 (0, 0)) := by
    rw [hW, Below.heap_alloc _ _ _ (by simp)]
    exact heap_alloc_new w _
  have hb2 : W.heap[w.heap.size + 1]? = some (.cells #[.string k2, .int .i64 o2, .slice A2 l2.length c2] 69 (0, 0)) := by
    rw [hW]
    have h := heap_alloc_new (w.alloc (.cells #[.string k1, .int .i64 o1, .slice A1 l1.length c1] 69)) (.cells #[.string k2, .int .i64 o2, .slice A2 l2.length c2] 69)
    simpa using h
  have p0 : W.cell? ⟨w.heap.size, 0, none⟩ = some (.string k1) := by rw [cell_of_row _ _ _ _ _ _ hb1]; rfl
  have p1 : W.cell? ⟨w.heap.size, 1, none⟩ = some (.int .i64 o1) := by rw [cell_of_row _ _ _ _ _ _ hb1]; rfl
  have p2 : W.cell? ⟨w.heap.size, 2, none⟩ = some (.slice A1 l1.length c1) := by rw [cell_of_row _ _ _ _ _ _ hb1]; rfl
  have q0 : W.cell? ⟨w.heap.size + 1, 0, none⟩ = some (.string k2) := by rw [cell_of_row _ _ _ _ _ _ hb2]; rfl
  have q1 : W.cell? ⟨w.heap.size + 1, 1, none⟩ = some (.int .i64 o2) := by rw [cell_of_row _ _ _ _ _ _ hb2]; rfl
  have q2 : W.cell? ⟨w.heap.size + 1, 2, none⟩ = some (.slice A2 l2.length c2) := by rw [cell_of_row _ _ _ _ _ _ hb2]; rfl
  have HS := Lib.hid (fun w' => Tryz.strings_Compare k1 k2 w')
  have HI := Lib.hid (fun w' => arith.impl_cmp o1 o2 w')
  have HV := Lib.hid (fun w' (hg : Below w.heap.size w w') => impl_cmpV l1 l2 f1 f2 _ _ w' (r1.below hg) (r2.below hg))
  have hcB : Lib.compareBytes k1.data.toList k2.data.toList = cmpB k1 k2 := rfl
  rw [hcB] at HS
  generalize cmpB k1 k2 = a at HS
  generalize arith.cmpF o1 o2 = b at HI
  generalize cmpV l1 l2 = c at HV
  have HO := Lib.hid (show Calls Tryz.prog 169 #[.slice (some ⟨W.heap.size, 0, none⟩) 3 3] (W.alloc (.cells #[.int .i64 a, .int .i64 b, .int .i64 c] 3)).drew fun e w' => e = .returned (.int .i64 (orI a b c)) ∧ (W.alloc (.cells #[.int .i64 a, .int .i64 b, .int .i64 c] 3)).drew = w' by
    rw [← orL_three]
    exact impl_or [a, b, c] (some ⟨W.heap.size, 0, none⟩) 3 _ (by simp) ((rd_three W a b c _).drewN 1))
  have Hgr := Lib.hid hgr
  have HW := Lib.hid hW
  clear h1 h2 r1 r2 hgr hb1 hb2 hcB
  go_enter Tryz.func100, Tryz.ntmps100
  go_wp2_with fail
  rw [← hW]
  clear hW
  have h6 : Six w (.string k1) (.int .i64 o1) (.slice A1 l1.length c1) (.string k2) (.int .i64 o2) (.slice A2 l2.length c2) W := ⟨Hgr.out, p0, p1, p2, q0, q1, q2⟩
  clear p0 p1 p2 q0 q1 q2 HW
  have H6 := Lib.hid h6
  clear h6
  go_region_held3 (fun w' => Gr w w' ∧ w'.cell? ⟨w.heap.size, 0, none⟩ = some (.string k1) ∧ w'.cell? ⟨w.heap.size, 1, none⟩ = some (.int .i64 o1) ∧ w'.cell? ⟨w.heap.size, 2, none⟩ = some (.slice A1 l1.length c1) ∧ w'.cell? ⟨w.heap.size + 1, 0, none⟩ = some (.string k2) ∧ w'.cell? ⟨w.heap.size + 1, 1, none⟩ = some (.int .i64 o2) ∧ w'.cell? ⟨w.heap.size + 1, 2, none⟩ = some (.slice A2 l2.length c2)) (first | assumption | exact H6.out.keep (Gr.refl _).drew | exact Six.keep (by assumption) ((Gr.refl _).alloc _) | exact Six.keep (by assumption) (by assumption)) (first | (go_at_call 98; refine (HS.out _).mono ?_; rintro e w1 ⟨rfl, rfl⟩) | (go_at_call 170; refine (HI.out _).mono ?_; rintro e w1 ⟨rfl, rfl⟩) | (go_at_call 171; refine (HV.out _ (And.left (by assumption : Six w _ _ _ _ _ _ _)).below).mono ?_; rintro e w1 ⟨rfl, rfl⟩) | (go_at_call 169; refine HO.out.mono ?_; rintro e w1 ⟨rfl, rfl⟩))
  all_goals
    go_wp2_with fail
    go_ret
    exact ⟨rfl, (Hgr.out.alloc _).drew⟩
end Go.Proofs.YtcfbkfmkjggcdaaGreatDoor.need
namespace Go.Proofs.YtcfbkfmkjggcdaaGreatDoor.need
open Go.ChangeShapes Go.WideShapes Go.ChangeAt Go.RowKit ty lab
set_option linter.unusedVariables false

set_option maxRecDepth 100000 in
set_option maxHeartbeats 16000000 in
theorem impl_ascN (l : List Need) (f : Nat) (v : Value) (w : World) (h : Lies w f v (.sl 3 l.length (l.flatMap Need.row))) (hw : ∀ j (h : j < l.length), l[j].wt ≤ 1048576) :
    Calls Tryz.prog 172 #[v, .func (.func 173) #[] #[], .func (.func 100) #[] #[]] w fun e w' => e = .returned (.bool (yes (GoodN l l.length))) ∧ Below w.heap.size w w' := by
  obtain ⟨A, c, rfl, hc1, hc2, f', rfl, hk⟩ := els_of Need.row_length h
  unfold maxLen at hc2
  obtain ⟨R, hR⟩ : ∃ R, yes (GoodN l l.length) = R := ⟨_, rfl⟩
  rw [hR]
  have Hno : Hid (¬ GoodN l l.length → R = false) := fun h => by rw [← hR]; exact yes_f h
  have Hyes : Hid (GoodN l l.length → R = true) := fun h => by rw [← hR]; exact yes_t h
  have Hwt := Lib.hid hw
  have Hk := Lib.hid hk
  clear h hk hR hw
  go_enter Tryz.func172, Tryz.ntmps172
  go_wp2_with fail
  go_loopw [11] (fun i wr => ∃ j : Nat, j ≤ l.length ∧ i = .int .i64 j ∧ Hid (GoodN l j) ∧ Below w.heap.size w wr) (fun i _ => l.length - (intOf i).toNat)
  case atStart => exact ⟨0, Nat.zero_le _, rfl, fun i hi hj => by omega, Below.refl _ _⟩
  case round =>
    obtain ⟨j, hj, rfl, hgood, hbel⟩ := hrel
    have Hbel := Lib.hid hbel
    by_cases hlt : j < l.length
    · obtain ⟨g, o, A2, c2, rfl, q0, q1, q2, hls⟩ := el_at Hk.out hbel hlt
      obtain ⟨X, hX⟩ : ∃ X, X = wr.alloc (.cells #[.string l[j].key, .int .i64 l[j].op, .slice A2 l[j].values.length c2] 69) := ⟨_, rfl⟩
      have HB := Lib.hid (Box.new 69 wr [.string l[j].key, .int .i64 l[j].op, .slice A2 l[j].values.length c2])
      have hbX : Below wr.heap.size wr X := by rw [hX]; exact HB.out.1
      have HN := Lib.hid (fun p : BelowBy X => impl_need l[j] f' _ p.v (hls ⟨p.v, hbX.trans (p.h.mono hbX.size)⟩) (Hwt.out j hlt))
      have HW2 : Hid (∀ p : BelowBy X, Below w.heap.size w p.v) := fun p => below_link hbel (hbX.trans (p.h.mono hbX.size)) hbel.size
      have B0 : ∀ p : BelowBy X, p.v.cell? ⟨wr.heap.size, 0, none⟩ = some (.string l[j].key) := fun p => p.cell (by rw [hX]; simp) (by rw [hX]; exact HB.out.cell (j := 0) rfl)
      have B1 : ∀ p : BelowBy X, p.v.cell? ⟨wr.heap.size, 1, none⟩ = some (.int .i64 l[j].op) := fun p => p.cell (by rw [hX]; simp) (by rw [hX]; exact HB.out.cell (j := 1) rfl)
      have B2 : ∀ p : BelowBy X, p.v.cell? ⟨wr.heap.size, 2, none⟩ = some (.slice A2 l[j].values.length c2) := fun p => p.cell (by rw [hX]; simp) (by rw [hX]; exact HB.out.cell (j := 2) rfl)
      have HX := Lib.hid hX
      have HbX := Lib.hid hbX
      have q0 := q0 ⟨wr, Below.refl _ _⟩
      have q1 := q1 ⟨wr, Below.refl _ _⟩
      have q2 := q2 ⟨wr, Below.refl _ _⟩
      simp only at q0 q1 q2
      have hj0 : (0 : Int) ≤ (j : Int) := by omega
      have hjn : (j : Int) < (l.length : Int) := by omega
      by_cases hP : NeedP l[j]
      case neg =>
        have Hf := Lib.hid (Hno.out fun h2 => hP (h2 j hlt hlt).1)
        rw [yes_f hP] at HN
        clear hP Hno Hyes hgood hls Hwt Hk hbel hX hbX HB
        generalize l[j] = x at *
        go_wp2_with fail
        rw [← HX.out]
        refine wp_region_quiet_below (by kernel_rfl) (by kernel_rfl) ?_
        repeat (refine @wpQuiet_step _ _ _ _ _ _ _ ?_; intro K hK; go_simp; first | (refine hK _ ?_; clear hK K) | (apply Exists.intro; refine ⟨fun _ => ?_, hK _ ?_⟩; (first | (go_at_call 173; exact Calls.below_of (HN.out _))); clear hK K))
        refine wpQuiet_nil ?_
        intro _ hw'
        obtain ⟨p, rfl⟩ := hw'
        go_wp2_with fail
        go_ret
        exact ⟨by rw [Hf.out]; rfl, HW2.out p⟩
      rw [yes_t hP] at HN
      by_cases hz : j = 0
      · have Hg := Lib.hid (goodN_next hgood.out hlt hP (fun m hm => by omega))
        have hn0 : ¬ (0 : Int) < (j : Int) := by omega
        have hn1 : ¬ 0 < j := by omega
        clear hP Hno Hyes hgood hls Hwt Hk hz hbel hX hbX HB
        generalize l[j] = x at *
        go_wp2_with fail
        rw [← HX.out]
        refine wp_region_quiet_below (by kernel_rfl) (by kernel_rfl) ?_
        repeat (refine @wpQuiet_step _ _ _ _ _ _ _ ?_; intro K hK; go_simp; first | (refine hK _ ?_; clear hK K) | (apply Exists.intro; refine ⟨fun _ => ?_, hK _ ?_⟩; (first | (go_at_call 173; exact Calls.below_of (HN.out _))); clear hK K))
        refine wpQuiet_nil ?_
        intro _ hw'
        obtain ⟨p, rfl⟩ := hw'
        go_wp2_with fail
        go_roundw
        case rel => exact ⟨j + 1, by omega, by go_num, Hg.out, HW2.out p⟩
        case measure => simp [intOf]; omega
      obtain ⟨m, hm⟩ : ∃ m, m + 1 = j := ⟨j - 1, by omega⟩
      have hml : m < l.length := by omega
      obtain ⟨g', o', A3, c3, hA3, r0, r1, r2, hls2⟩ := el_at Hk.out hbel hml
      injection hA3 with hA3
      injection hA3 with e1 e2
      subst e1 e2
      have HC := Lib.hid (fun p : BelowBy X => gr_below (cmp_gr l[m] l[j] f' f' _ _ p.v (hls2 ⟨p.v, hbX.trans (p.h.mono hbX.size)⟩) (hls ⟨p.v, hbX.trans (p.h.mono hbX.size)⟩)))
      have R0 : ∀ p : BelowBy X, p.v.cell? ⟨g, o + m * 3, none⟩ = some (.string l[m].key) := fun p => r0 ⟨p.v, hbX.trans (p.h.mono hbX.size)⟩
      have R1 : ∀ p : BelowBy X, p.v.cell? ⟨g, o + m * 3 + 1, none⟩ = some (.int .i64 l[m].op) := fun p => r1 ⟨p.v, hbX.trans (p.h.mono hbX.size)⟩
      have R2 : ∀ p : BelowBy X, p.v.cell? ⟨g, o + m * 3 + 2, none⟩ = some (.slice A3 l[m].values.length c3) := fun p => r2 ⟨p.v, hbX.trans (p.h.mono hbX.size)⟩
      have hmi : (j : Int) - 1 = (m : Int) := by omega
      have hwm : IntKind.i64.wrap (m : Int) = (m : Int) := IntWalk.i64_in _ (by omega)
      have hm0 : (0 : Int) ≤ (m : Int) := by omega
      have hm1 : (m : Int) < (l.length : Int) := by omega
      have hjp : (0 : Int) < (j : Int) := by omega
      have hjp1 : 0 < j := by omega
      have hb := cmpN_less l[m] l[j]
      by_cases hr : cmpN l[m] l[j] < 0
      · rw [decide_eq_true hr] at hb
        have Hg := Lib.hid (goodN_next hgood.out hlt hP (fun m' hm' => by obtain rfl : m' = m := by omega
                                                                          exact hb.symm))
        have hr0 : ¬ (0 : Int) ≤ cmpN l[m] l[j] := by omega
        clear hP Hno Hyes hgood hls hls2 Hwt Hk hz hm hb hbel hX hbX HB r0 r1 r2
        generalize cmpN l[m] l[j] = r at HC hr0 hr
        generalize l[j] = x at *
        generalize l[m] = y at *
        go_wp2_with fail
        rw [← HX.out]
        refine wp_region_quiet_below (by kernel_rfl) (by kernel_rfl) ?_
        repeat (refine @wpQuiet_step _ _ _ _ _ _ _ ?_; intro K hK; go_simp; first | (refine hK _ ?_; clear hK K) | (apply Exists.intro; refine ⟨fun _ => ?_, hK _ ?_⟩; (first | (go_at_call 173; exact Calls.below_of (HN.out _)) | (go_at_call 100; exact Calls.below_of (HC.out _))); clear hK K))
        refine wpQuiet_nil ?_
        intro _ hw'
        obtain ⟨p, rfl⟩ := hw'
        go_wp2_with fail
        go_roundw
        case rel => exact ⟨j + 1, by omega, by go_num, Hg.out, HW2.out p⟩
        case measure => simp [intOf]; omega
      · rw [decide_eq_false hr] at hb
        have Hf := Lib.hid (Hno.out fun h2 => by
          have := (h2 j hlt hlt).2 m hm
          rw [← hb] at this; cases this)
        have hr0 : (0 : Int) ≤ cmpN l[m] l[j] := by omega
        clear hP Hno Hyes hgood hls hls2 Hwt Hk hz hm hb hbel hX hbX HB r0 r1 r2
        generalize cmpN l[m] l[j] = r at HC hr0 hr
        generalize l[j] = x at *
        generalize l[m] = y at *
        go_wp2_with fail
        rw [← HX.out]
        refine wp_region_quiet_below (by kernel_rfl) (by kernel_rfl) ?_
        repeat (refine @wpQuiet_step _ _ _ _ _ _ _ ?_; intro K hK; go_simp; first | (refine hK _ ?_; clear hK K) | (apply Exists.intro; refine ⟨fun _ => ?_, hK _ ?_⟩; (first | (go_at_call 173; exact Calls.below_of (HN.out _)) | (go_at_call 100; exact Calls.below_of (HC.out _))); clear hK K))
        refine wpQuiet_nil ?_
        intro _ hw'
        obtain ⟨p, rfl⟩ := hw'
        go_wp2_with fail
        go_ret
        exact ⟨by rw [Hf.out]; rfl, HW2.out p⟩
    · obtain rfl : j = l.length := by omega
      have Hf := Lib.hid (Hyes.out hgood.out)
      clear hgood hbel
      go_wp2_with fail
      go_ret
      exact ⟨by rw [Hf.out]; rfl, Hbel.out⟩
end Go.Proofs.YtcfbkfmkjggcdaaGreatDoor.need
namespace Go.Proofs.YtcfbkfmkjggcdaaGreatDoor.need
open Go.ChangeShapes Go.WideShapes Go.ChangeAt Go.RowKit ty lab
set_option linter.unusedVariables false

set_option maxRecDepth 100000 in
theorem impl_sel (l : List Need) (f : Nat) (v : Value) (w : World) (h : Lies w f v (.sl 3 l.length (l.flatMap Need.row))) (hw : l.length + wsum Need.wt l ≤ 1048576) :
    Calls Tryz.prog 101 #[v] w fun e w' => e = .returned (.bool (yes (SelP l))) ∧ Below w.heap.size w w' := by
  have HA := Lib.hid (impl_ascN l f v w h (fun j hj => by have := wsum_mem Need.wt hj; omega))
  obtain ⟨A, c, rfl, hc1, hc2, f', rfl, hk⟩ := els_of Need.row_length h
  unfold maxLen at hc2
  obtain ⟨R, hR⟩ : ∃ R, yes (SelP l) = R := ⟨_, rfl⟩
  rw [hR]
  have hcase : (¬ l.length ≤ 4 ∧ R = false) ∨ (l.length ≤ 4 ∧ R = yes (GoodN l l.length)) := by
    rw [← hR]
    by_cases h4 : l.length ≤ 4
    · refine .inr ⟨h4, ?_⟩
      by_cases hg : GoodN l l.length
      · rw [yes_t hg]; exact yes_t ⟨h4, hg⟩
      · rw [yes_f hg]; exact yes_f fun h => hg h.2
    · exact .inl ⟨h4, yes_f fun h => h4 h.1⟩
  clear h hk hR hw
  generalize yes (GoodN l l.length) = b at HA hcase
  rcases hcase with ⟨h4, hf⟩ | ⟨h4, hf⟩
  · have Hf := Lib.hid hf
    have g0 : ¬ (l.length : Int) ≤ 4 := by omega
    clear hf HA
    go_enter Tryz.func101, Tryz.ntmps101
    go_wp2_with fail
    go_ret
    exact ⟨by rw [Hf.out]; rfl, Below.refl _ _⟩
  · have Hf := Lib.hid hf
    have g0 : (l.length : Int) ≤ 4 := by omega
    clear hf
    go_enter Tryz.func101, Tryz.ntmps101
    go_wp2_with fail
    refine HA.out.mono ?_
    rintro e x1 ⟨rfl, hb⟩
    have B1 := Lib.hid hb
    clear hb
    go_wp2_with fail
    go_ret
    exact ⟨by rw [Hf.out]; rfl, B1.out⟩
end Go.Proofs.YtcfbkfmkjggcdaaGreatDoor.need
