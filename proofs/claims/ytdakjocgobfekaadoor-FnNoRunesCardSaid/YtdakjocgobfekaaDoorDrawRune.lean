/- Drawn numbers of characters: l07Rune, DrawRuneText, DrawRunesText. -/
import Derived.Test.YtdakjocgobfekaaDoorDrawPick
import Derived.Test.YtdakjocgobfekaaDoorDrawOwn
namespace Go.Proofs.YtdakjocgobfekaaDoor.draw
open Go.ChangeShapes Go.WideShapes Go.ChangeAt Go.RowKit
set_option linter.unusedVariables false

theorem rune_any (c : Nat) (A : Option Addr) (len cap : Nat) (z : Nat → Int) (w : World) (hc : Cur w c A len cap z) :
    Calls Tryd.prog 27 #[.pointer (some ⟨c, 0, none⟩)] w (Got I64 c A len cap z w) := by
  have H5 := Lib.hid (below_any c A len cap z 5 w hc (by decide) (by decide))
  clear hc
  go_enter Tryd.func27, Tryd.ntmps27
  go_wp2_with fail
  refine H5.out.mono ?_
  rintro e w1 ⟨x, hx, rfl, hc1, hg1⟩
  clear H5
  by_cases h0 : x = 0
  · subst h0
    have hlt := hc1.lt
    have HP := Lib.hid (pick_any c A len cap z w1.heap.size 22 22 [0, 9, 10, 31, 32, 34, 92, 126, 127, 128, 2047, 2048, 55295, 55296, 57343, 57344, 65533, 65535, 65536, 1114111, 1114112, -1] _ (cur_alloc hc1 _) (by decide) (by decide) rfl hlt (heap_alloc_new w1 _))
    have Hg1 := Lib.hid hg1
    have Hc1 := Lib.hid hc1
    clear hg1 hc1 hlt hx
    go_wp2_with fail
    refine HP.out.mono ?_
    rintro e w2 ⟨x, hx, rfl, hc2, hg2⟩
    have hI : Hid (I64 x) := by
      unfold Hid I64
      simp at hx
      omega
    have Hc2 := Lib.hid hc2
    have Hg2 := Lib.hid (grown_trans Hg1.out (grown_trans (grown_alloc _ _ _) hg2))
    clear hx hc2 hg2 HP
    go_wp2_with fail
    go_ret
    exact ⟨x, hI.out, rfl, Hc2.out, Hg2.out⟩
  have e0 : (x == 0) = false := beq_eq_false_iff_ne.2 h0
  by_cases h1 : x = 1
  · subst h1
    have HA := Lib.hid (below_any c A len cap z 1114112 w1 hc1 (by decide) (by decide))
    have Hg1 := Lib.hid hg1
    clear hg1 hc1
    go_wp2_with fail
    refine HA.out.mono ?_
    rintro e w2 ⟨a, ha, rfl, hc2, hg2⟩
    have Hg2 := Lib.hid (grown_trans Hg1.out hg2)
    have Hc2 := Lib.hid hc2
    have hI : Hid (I64 a) := by unfold Hid I64; omega
    clear hg2 hc2 HA Hg1
    go_wp2_with fail
    go_ret
    exact ⟨_, hI.out, rfl, Hc2.out, Hg2.out⟩
  have e1 : (x == 1) = false := beq_eq_false_iff_ne.2 h1
  have HA := Lib.hid (below_any c A len cap z 95 w1 hc1 (by decide) (by decide))
  have Hg1 := Lib.hid hg1
  clear hg1 hc1
  go_wp2_with fail
  refine HA.out.mono ?_
  rintro e w2 ⟨a, ha, rfl, hc2, hg2⟩
  have Hg2 := Lib.hid (grown_trans Hg1.out hg2)
  have Hc2 := Lib.hid hc2
  have hI : Hid (I64 (32 + a)) := by unfold Hid I64; omega
  clear hg2 hc2 HA Hg1
  go_wp2_with fail
  go_ret
  exact ⟨_, hI.out, rfl, Hc2.out, Hg2.out⟩

theorem runeText_any (A : Option Addr) (len cap : Nat) (zs : List Int) (w : World) (hr : IsRow .u8 w A len cap zs) (hlen : len ≤ 1048576) :
    Calls Tryd.prog 13 #[.slice A len cap] w fun e w' => ∃ n : Int, I64 n ∧ e = .returned (.int .i64 n) ∧ Below w.heap.size w w' := by
  have HN := Lib.hid (new_any A len cap zs w hr hlen)
  clear hr
  go_enter Tryd.func13, Tryd.ntmps13
  go_wp2_with fail
  refine HN.out.mono ?_
  clear HN
  rintro e w1 ⟨c, rfl, hcw, hc, hb1⟩
  generalize (fun j => zs.getD j 0) = z at hc
  have HR := Lib.hid (rune_any c A len cap z w1 hc)
  clear hc
  go_wp2_with fail
  refine HR.out.mono ?_
  rintro e w2 ⟨n, hn, rfl, hc2, hg2⟩
  have Hb := Lib.hid (hb1.grown hg2 hb1.size (fun b hb => by injection hb with hb; omega))
  have Hn := Lib.hid hn
  clear hc2 hg2 hb1 HR hn
  go_wp2_with fail
  go_ret
  exact ⟨n, Hn.out, rfl, Hb.out⟩

/-- Drawn numbers in memory of the call's own. -/
def Runes (w : World) (e : Ending) (w' : World) : Prop :=
  ∃ (v : Value) (l : List Int), e = .returned v ∧ l.length ≤ 8 ∧ (∀ x ∈ l, (Lit.int .i64 x).wf = true) ∧ w'.ownsRow w.heap.size 3 1 v l.length (icells l) ∧ Below w.heap.size w w'
theorem I64.wf {x : Int} (h : I64 x) : (Lit.int .i64 x).wf = true := by
  have e1 : IntKind.i64.min = -9223372036854775808 := rfl
  have e2 : IntKind.i64.max = 9223372036854775807 := rfl
  unfold I64 at h
  simp [Lit.wf, e1, e2]
  exact h

set_option maxRecDepth 100000 in
theorem runesText_any (A : Option Addr) (len cap : Nat) (zs : List Int) (w : World) (hr : IsRow .u8 w A len cap zs) (hlen : len ≤ 1048576) :
    Calls Tryd.prog 9 #[.slice A len cap] w (Runes w) := by
  obtain ⟨i0, hi, hz0, hz1, hz2⟩ := info_parts TrydinfoI
  have HN := Lib.hid (new_any A len cap zs w hr hlen)
  clear hr
  go_enter Tryd.func9, Tryd.ntmps9
  go_wp2_with fail
  refine HN.out.mono ?_
  clear HN
  rintro e w1 ⟨c, rfl, hcw, hc, hb1⟩
  generalize (fun j => zs.getD j 0) = z at hc
  have hclt := hc.lt
  have hown := World.ownsRow_lit (size := 1) (base := c + 1) (e := 3) w1 #[] 0 hclt (by simp [maxLen]) rfl
  have hc2 := hc.below ((Below.refl (c + 1) w1).alloc hclt (.cells #[] 3)) (Nat.lt_succ_self c)
  have hb2 := hb1.alloc hb1.size (.cells #[] 3)
  have Hc2 := Lib.hid hc2
  have Hown := Lib.hid hown
  have Hb2 := Lib.hid hb2
  clear hc hown hc2 hb1 hb2
  go_wp2_with fail
  go_loopw [4, 5] (fun v i wr => ∃ (k : Nat) (l : List Int), k ≤ 8 ∧ i = .int .i64 k ∧ l.length = k ∧ Hid (∀ x ∈ l, I64 x) ∧ wr.ownsRow (c + 1) 3 1 v k (icells l) ∧ Cur wr c A len cap z ∧ Below w.heap.size w wr) (fun _ i _ => 8 - (intOf i).toNat)
  case atStart => exact ⟨0, [], Nat.zero_le _, rfl, rfl, fun x hx => by simp at hx, Hown.out, Hc2.out, Hb2.out⟩
  case round =>
    clear Hown Hc2 Hb2
    obtain ⟨k, l, hk, rfl, hll, hall, hown, hcur, hbel⟩ := hrel
    have Hll := Lib.hid hll
    clear hll
    have HB := Lib.hid (below_any c A len cap z 8 wr hcur (by decide) (by decide))
    go_wp2_with fail
    refine HB.out.mono ?_
    clear HB
    rintro e w2 ⟨x, hx, rfl, hcur2, hg2⟩
    have hown2 := kept_cur hown hg2
    have hbel2 : Below w.heap.size w w2 := hbel.grown hg2 hbel.size (fun b hb => by injection hb with hb; omega)
    clear hown hcur hbel hg2
    by_cases hlt : (k : Int) < x
    · have hk8 : k < 8 := by omega
      have HR := Lib.hid (rune_any c A len cap z w2 hcur2)
      clear hcur2
      go_wp2_with fail
      refine HR.out.mono ?_
      clear HR
      rintro e w3 ⟨y, hy, rfl, hcur3, hg3⟩
      have hown3 := kept_cur hown2 hg3
      have hbel3 : Below w.heap.size w w3 := hbel2.grown hg3 hbel2.size (fun b hb => by injection hb with hb; omega)
      clear hown2 hbel2 hg3
      go_wp2_with (at_builtin; refine wpList_append_own _ rfl (.tmp 15) (.tmp 18) 24 rfl (c + 1) 3 i0 (.int .i64 0) 1 8 Tryd.underlying24 hi hz0 hz1 hz2 rfl (by decide) _ k _ rfl (hown3.alloc _) ⟨w3.heap.size, 0, none⟩ 1 1 (icells [y]) rfl rfl (by exact lit_cells _ _ _) (by intro u hu; simp [icells] at hu; subst hu; rfl) (by unfold maxLen; omega) (by omega) (by have := hcur3.lt; simp; omega) ?_)
      intro v4 w4 hown4 hg4 _
      have hcl := hcur3.lt
      have hb4 : Below (c + 1) w3 w4 := ((Below.refl (c + 1) w3).alloc hcl _).grown hg4 (by simp; omega) (fun b hb => (hown3.lt b hb).1)
      have hcur4 := hcur3.below hb4 (Nat.lt_succ_self c)
      have hbel4 : Below w.heap.size w w4 := hbel3.trans (hb4.mono (by omega))
      have Hall : Hid (∀ u ∈ l ++ [y], I64 u) := fun u hu => by
        rcases List.mem_append.1 hu with h | h
        · exact hall.out u h
        · simp at h; subst h; exact hy
      clear hown3 hcur3 hbel3 hg4 hb4 hall hy
      go_wp2_with fail
      go_roundw
      case rel => exact ⟨k + 1, l ++ [y], by omega, by go_num, by simp [Hll.out], Hall, by rw [icells_append]; exact hown4, hcur4, hbel4⟩
      case measure => simp [intOf]; omega
    · have Hown := Lib.hid (own_lower (B' := w.heap.size) hown2 (by omega))
      have Hbel := Lib.hid hbel2
      clear hown2 hbel2 hcur2
      go_wp2_with fail
      go_ret
      exact ⟨_, l, rfl, by have := Hll.out; omega, fun u hu => (hall.out u hu).wf, by rw [Hll.out]; exact Hown.out, Hbel.out⟩
end Go.Proofs.YtdakjocgobfekaaDoor.draw
