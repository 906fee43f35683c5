/- The law's own helpers on lists of tokens, and on faults: eqSignS, eqFault, markSignS, heldSignS. -/
import Derived.Test.YtamlkieeiflgkaaDoorFtB
import Derived.Test.YtamlkieeiflgkaaDoorLawEqSign
import Derived.Test.YtamlkieeiflgkaaDoorMarkTxt
namespace Go.Proofs.YtamlkieeiflgkaaDoor.lawSign
open Go.ChangeShapes Go.WideShapes Go.ChangeAt Go.RowKit
open sign lawMark
set_option linter.unusedVariables false

theorem eqf_yes (f : Ft) (w : World) :
    Calls Tryd.prog 22 #[fV f, fV f] w fun e w' => e = .returned (.bool true) ∧ Below w.heap.size w w' := by
  obtain ⟨k, a, p⟩ := f
  unfold fV fC
  simp only
  have Hb : Hid (∀ (a b : Obj), Below w.heap.size w ((w.alloc a).alloc b)) := fun a b => ((Below.refl _ _).alloc (Nat.le_refl _) a).alloc (by simp) b
  go_enter Tryd.func22, Tryd.ntmps22
  go_wp2_with fail
  go_ret
  exact ⟨rfl, Hb.out _ _⟩

set_option maxHeartbeats 4000000 in
set_option maxRecDepth 100000 in
theorem eqs_yes (A1 A2 : Option Addr) (n c1 c2 : Nat) (l : List Sg) (w : World) (hn : n ≤ 1048576) (h1 : RdG w A1 n l) (h2 : RdG w A2 n l) :
    Calls Tryd.prog 21 #[.slice A1 n c1, .slice A2 n c2] w fun e w' => e = .returned (.bool true) ∧ Below w.heap.size w w' := by
  have H1 := Lib.hid h1
  have H2 := Lib.hid h2
  clear h1 h2
  go_enter Tryd.func21, Tryd.ntmps21
  go_wp2_with fail
  go_loopw [5] (fun i wr => ∃ k : Nat, k ≤ n ∧ i = .int .i64 k ∧ Below w.heap.size w wr) (fun i _ => n - (intOf i).toNat)
  case atStart => exact ⟨0, Nat.zero_le _, rfl, Below.refl _ _⟩
  case round =>
    obtain ⟨k, hk, rfl, hbel⟩ := hrel
    by_cases hlt : k < n
    · have hkl : k < l.length := by have := H1.out.1; omega
      obtain ⟨g1, o1, rfl, hg1, hc1⟩ := (H1.out.below hbel).2 (by omega)
      obtain ⟨g2, o2, rfl, hg2, hc2⟩ := (H2.out.below hbel).2 (by omega)
      obtain ⟨q0, q1, q2, q3⟩ := hc1 k hkl
      obtain ⟨r0, r1, r2, r3⟩ := hc2 k hkl
      have HC := Lib.hid (fun w => eq_yes l[k] w)
      unfold sgV sgC at HC
      generalize l[k] = x at *
      obtain ⟨xk, xt, xn, xa⟩ := x
      simp only at q0 q1 q2 q3 r0 r1 r2 r3 HC
      have Hbel := Lib.hid hbel
      clear hc1 hc2 hbel hg1 hg2 hkl
      go_wp2_with fail
      go_region_law (go_simp; go_at_call 18; refine (HC.out _).mono ?_; rintro e w1 ⟨rfl, hb1⟩)
      all_goals
        have hbel1 := Hbel.out.trans (((Below.refl _ _).drew.trans (hb1.mono (Nat.le_refl _))).mono Hbel.out.size)
        clear hb1 q0 q1 q2 q3 r0 r1 r2 r3
        go_wp2_with fail
        go_roundw
        case rel => exact ⟨k + 1, by omega, by go_num, hbel1⟩
        case measure => simp [intOf]; omega
    · obtain rfl : k = n := by omega
      have Hbel := Lib.hid hbel
      clear hbel
      go_wp2_with fail
      go_ret
      exact ⟨rfl, Hbel.out⟩

def mkG (m : Int) : Sg := ⟨m, mt (m + 1), m + 2, m + 3⟩
def Marked (L : List Sg) (m : Int) (k : Nat) : Prop := ∀ j, j < k → L[j]? = some (mkG (m + 4 * (j : Int)))
set_option maxHeartbeats 4000000 in
set_option maxRecDepth 100000 in
theorem mark_live (g n c : Nat) (l : List Sg) (m : Int) (w : World) (hn : n ≤ 1048576) (hl : l.length = n) (h : LiveG w g l) (h0 : 0 ≤ m) (hm : m ≤ 100) :
    Calls Tryd.prog 23 #[.slice (some ⟨g, 0, none⟩) n c, .int .i64 m] w fun e w' => e = .returned (.int .i64 (m + 4 * n)) ∧ (∃ L, L.length = n ∧ Marked L m n ∧ LiveG w' g L) ∧ w.grownBy w' (some g) := by
  have Hl := Lib.hid hl
  have H := Lib.hid h
  clear hl h
  go_enter Tryd.func23, Tryd.ntmps23
  go_wp2_with fail
  go_loopw [1, 5] (fun a i wr => ∃ (k : Nat) (L : List Sg), k ≤ n ∧ i = .int .i64 k ∧ a = .int .i64 (m + 4 * k) ∧ Hid (L.length = n ∧ Marked L m k ∧ LiveG wr g L ∧ w.grownBy wr (some g))) (fun _ i _ => n - (intOf i).toNat)
  case atStart => exact ⟨0, l, Nat.zero_le _, rfl, by simp, Hl.out, fun j hj => by omega, H.out, World.grownBy.refl _ _⟩
  case round =>
    clear H Hl
    obtain ⟨k, L, hk, rfl, rfl, HH⟩ := hrel
    by_cases hlt : k < n
    · obtain ⟨hL, hM, hlive, hgr⟩ := HH.out
      have hkL : k < L.length := by omega
      obtain ⟨hf, hz⟩ := hlive.2 k hkL
      generalize hxe : L[k] = x at hf
      obtain ⟨xk, xt, xn, xa⟩ := x
      have hf1 := four_0 hf (m + 4 * k)
      have hlive1 := live_put hlive hkL ⟨Nat.le_refl _, by omega⟩ hf1
      have hlt1 : g < (wr.setCell ⟨g, k * 4, none⟩ (.int .i64 (m + 4 * k))).heap.size := hlive1.1
      have hgr1 : w.grownBy (wr.setCell ⟨g, k * 4, none⟩ (.int .i64 (m + 4 * k))) (some g) := grown_trans hgr (setCell_grown wr g (k * 4) _)
      have q0 := hf.1
      have z0 := hz (k * 4)
      simp only at q0
      have HT := Lib.hid (fun y w hy => mark_text y w hy)
      have HS := Lib.hid (show L.length = n ∧ Marked L m k ∧ LiveG (wr.setCell ⟨g, k * 4, none⟩ (.int .i64 (m + 4 * k))) g (L.set k ⟨m + 4 * k, xt, xn, xa⟩) ∧ w.grownBy (wr.setCell ⟨g, k * 4, none⟩ (.int .i64 (m + 4 * k))) (some g) from ⟨hL, hM, hlive1, hgr1⟩)
      clear HH hL hM hlive hgr hkL hf hz hxe hf1 hlive1 hgr1 hlt1
      go_wp2_with fail
      refine (HT.out _ _ (by omega)).mono ?_
      rintro e w1 ⟨rfl, hb1⟩
      clear HT q0 z0
      obtain ⟨hL, hM, hlive1, hgr1⟩ := HS.out
      have hlive2 := hlive1.block hb1.size (hb1.block g hlive1.1)
      have hgr2 := grown_trans hgr1 (grown_of_below hb1 (some g))
      have hkL : k < (L.set k ⟨m + 4 * k, xt, xn, xa⟩).length := by rw [List.length_set]; omega
      have hf2 := (hlive2.2 k hkL).1
      have hz := (hlive2.2 k hkL).2
      rw [List.getElem_set_self] at hf2
      generalize hy : m + 4 * (k : Int) = y at *
      have hf3 := four_1 hf2 (mt (y + 1))
      have hlive3 := live_put hlive2 hkL ⟨by omega, by omega⟩ hf3
      have hf4 := four_2 hf3 (y + 1 + 1)
      have hlive4 := live_put hlive3 (by rw [List.length_set]; exact hkL) ⟨by omega, by omega⟩ hf4
      have hf5 := four_3 hf4 (y + 1 + 1 + 1)
      have hlive5 := live_put hlive4 (by rw [List.length_set, List.length_set]; exact hkL) ⟨by omega, by omega⟩ hf5
      rw [List.set_set, List.set_set, List.set_set] at hlive5
      have hmk : (⟨y, mt (y + 1), y + 1 + 1, y + 1 + 1 + 1⟩ : Sg) = mkG y := by
        unfold mkG
        congr 1 <;> omega
      rw [hmk] at hlive5
      have hgr5 := grown_trans (grown_trans (grown_trans hgr2 (setCell_grown w1 g (k * 4 + 1) (.string (mt (y + 1))))) (setCell_grown _ g (k * 4 + 2) (.int .i64 (y + 1 + 1)))) (setCell_grown _ g (k * 4 + 3) (.int .i64 (y + 1 + 1 + 1)))
      have p1 := hf2.2.1
      have p2 := hf3.2.2.1
      have p3 := hf4.2.2.2
      have z1 := hz (k * 4 + 1)
      have z2 : (w1.setCell ⟨g, k * 4 + 1, none⟩ (.string (mt (y + 1)))).frozen? ⟨g, k * 4 + 2, none⟩ = false := by rw [World.frozen?_setCell]; exact hz _
      have z3 : ((w1.setCell ⟨g, k * 4 + 1, none⟩ (.string (mt (y + 1)))).setCell ⟨g, k * 4 + 2, none⟩ (.int .i64 (y + 1 + 1))).frozen? ⟨g, k * 4 + 3, none⟩ = false := by rw [World.frozen?_setCell, World.frozen?_setCell]; exact hz _
      simp only at p1 p2 p3
      have hM2 : Marked (L.set k (mkG y)) m (k + 1) := by
        intro j hj
        by_cases e : j = k
        · subst e
          rw [List.getElem?_set_self (by omega), hy]
        · rw [List.getElem?_set_ne (by omega)]
          exact hM j (by omega)
      have HS5 : Hid ((L.set k (mkG y)).length = n ∧ Marked (L.set k (mkG y)) m (k + 1) ∧ LiveG (((w1.setCell ⟨g, k * 4 + 1, none⟩ (.string (mt (y + 1)))).setCell ⟨g, k * 4 + 2, none⟩ (.int .i64 (y + 1 + 1))).setCell ⟨g, k * 4 + 3, none⟩ (.int .i64 (y + 1 + 1 + 1))) g (L.set k (mkG y)) ∧ w.grownBy (((w1.setCell ⟨g, k * 4 + 1, none⟩ (.string (mt (y + 1)))).setCell ⟨g, k * 4 + 2, none⟩ (.int .i64 (y + 1 + 1))).setCell ⟨g, k * 4 + 3, none⟩ (.int .i64 (y + 1 + 1 + 1))) (some g)) := ⟨by rw [List.length_set]; exact hL, hM2, hlive5, hgr5⟩
      have hye : y + 1 + 1 + 1 + 1 = m + 4 * ((k + 1 : Nat) : Int) := by omega
      have hyb : y ≤ 5000000 := by omega
      have hy0 : 0 ≤ y := by omega
      have Hye := Lib.hid hye
      clear HS hL hM hlive1 hgr1 hlive2 hgr2 hkL hf2 hz hf3 hlive3 hf4 hlive4 hf5 hlive5 hgr5 hM2 hmk hb1 hy hye
      go_wp2_with fail
      go_roundw
      case rel => exact ⟨k + 1, _, by omega, by go_num, by rw [Hye.out], HS5⟩
      case measure => simp [intOf]; omega
    · obtain rfl : k = n := by omega
      obtain ⟨hL, hM, hlive, hgr⟩ := HH.out
      have HR := Lib.hid (show (∃ L, L.length = k ∧ Marked L m k ∧ LiveG wr g L) ∧ w.grownBy wr (some g) from ⟨⟨L, hL, hM, hlive⟩, hgr⟩)
      clear HH hL hM hlive hgr
      go_wp2_with fail
      go_ret
      exact ⟨rfl, HR.out⟩
theorem mark_nil (c : Nat) (m : Int) (w : World) (h0 : 0 ≤ m) (hm : m ≤ 100) :
    Calls Tryd.prog 23 #[.slice none 0 c, .int .i64 m] w fun e w' => e = .returned (.int .i64 m) ∧ w = w' := by
  go_enter Tryd.func23, Tryd.ntmps23
  go_wp2_with fail
  refine wp_loop_rounds 1 ?_
  rw [rounds_succ]
  go_wp2_with fail
  go_ret
  exact ⟨rfl, rfl⟩
set_option maxHeartbeats 8000000 in
set_option maxRecDepth 100000 in
theorem held_yes (A : Option Addr) (n c : Nat) (L : List Sg) (m : Int) (w : World) (hn : n ≤ 1048576) (hr : RdG w A n L) (hM : Marked L m n) (h0 : 0 ≤ m) (hm : m ≤ 100) :
    Calls Tryd.prog 24 #[.slice A n c, .int .i64 m] w fun e w' => e = .returned (.int .i64 (m + 4 * n)) ∧ Below w.heap.size w w' := by
  have Hr := Lib.hid hr
  have HM := Lib.hid hM
  clear hr hM
  go_enter Tryd.func24, Tryd.ntmps24
  go_wp2_with fail
  go_loopw [1, 5] (fun a i wr => ∃ k : Nat, k ≤ n ∧ i = .int .i64 k ∧ a = .int .i64 (m + 4 * k) ∧ Hid (Below w.heap.size w wr)) (fun _ i _ => n - (intOf i).toNat)
  case atStart => exact ⟨0, Nat.zero_le _, rfl, by simp, Below.refl _ _⟩
  case round =>
    obtain ⟨k, hk, rfl, rfl, Hb⟩ := hrel
    by_cases hlt : k < n
    · obtain ⟨g, o, rfl, hg, hc⟩ := (Hr.out.below Hb.out).2 (by omega)
      have hkL : k < L.length := by have := Hr.out.1; omega
      have hf := hc k hkL
      have hx := HM.out k hlt
      rw [List.getElem?_eq_getElem hkL] at hx
      injection hx with hx
      rw [hx] at hf
      unfold mkG at hf
      have hyb : m + 4 * (k : Int) ≤ 5000000 := by omega
      have hy0 : 0 ≤ m + 4 * (k : Int) := by omega
      have Hye : Hid (m + 4 * (k : Int) + 1 + 1 + 1 + 1 = m + 4 * ((k + 1 : Nat) : Int)) := by unfold Hid; omega
      generalize hy : m + 4 * (k : Int) = y at *
      obtain ⟨q0, q1, q2, q3⟩ := hf
      simp only at q0 q1 q2 q3
      rw [show y + 2 = y + 1 + 1 by omega] at q2
      rw [show y + 3 = y + 1 + 1 + 1 by omega] at q3
      have HT := Lib.hid (fun w => mark_text (y + 1) w (by omega))
      generalize mt (y + 1) = t at q1 HT
      have hss : (t.toList == t.toList) = true := by simp
      clear hc hkL hx hy
      go_wp2_with fail
      go_region_law (go_simp; go_at_call 52; refine (HT.out _).mono ?_; rintro e w1 ⟨rfl, hb1⟩; have r1 : w1.cell? ⟨g, o + k * 4 + 1, none⟩ = some (.string t) := (hb1.cell (p := ⟨g, o + k * 4 + 1, none⟩) hg).trans q1)
      all_goals
        have Hb1 := Lib.hid (Hb.out.drew.trans (hb1.mono Hb.out.size))
        have r2 : w1.cell? ⟨g, o + k * 4 + 2, none⟩ = some (.int .i64 (y + 1 + 1)) := (hb1.cell (p := ⟨g, o + k * 4 + 2, none⟩) hg).trans q2
        have r3 : w1.cell? ⟨g, o + k * 4 + 3, none⟩ = some (.int .i64 (y + 1 + 1 + 1)) := (hb1.cell (p := ⟨g, o + k * 4 + 3, none⟩) hg).trans q3
        clear hb1 q0 q1 q2 q3
        go_wp2_with fail
        go_roundw
        case rel => exact ⟨k + 1, by omega, by go_num, by rw [Hye.out], Hb1⟩
        case measure => simp [intOf]; omega
    · obtain rfl : k = n := by omega
      go_wp2_with fail
      go_ret
      exact ⟨rfl, Hb.out⟩
end Go.Proofs.YtamlkieeiflgkaaDoor.lawSign
