/- laws.toNeedS. Printed by gen/gen_ns.py. -/
import Derived.Test.YtjcfaepklakpkaaToNeed
import Derived.OwnWalk
import Derived.Deep.WholeRow
namespace Go.Proofs.Ytjcfaepklakpkaa.ty
open Go.ChangeShapes Go.WideShapes Go.ChangeAt Go.RowKit
set_option linter.unusedVariables false

theorem TryinfoNeed : (Try.prog.info? 27).map (fun i => (i.zero, i.size, i.bytes)) = some (some (.agg #[.string ⟨#[]⟩, .int .i64 0, .slice none 0 0]), 3, 48) := by kernel_rfl
set_option maxRecDepth 100000 in
theorem toNeedS (l : List Need) (f : Nat) (v : Value) (w : World) (h : Lies w f v (.sl 3 l.length (l.flatMap Need.row))) (hw : l.length + wsum Need.wt l ≤ 1048576) :
    Calls Try.prog 12 #[v] w fun e w' => ∃ v', e = .returned v' ∧ OwnRow w' w.heap.size 2 27 3 v' l.length (l.flatMap Need.row) ∧ Below w.heap.size w w' := by
  obtain ⟨A, c, rfl, hc1, hc2, f', rfl, hk⟩ := els_of Need.row_length h
  obtain ⟨i0, hi, hz0, hz1, hz2⟩ := info_parts TryinfoNeed
  unfold maxLen at hc2
  have Hk := Lib.hid hk
  have Hw := Lib.hid hw
  have hwl : l.length ≤ 1048576 := by omega
  clear h hk hw
  go_enter Try.func12, Try.ntmps12
  go_wp2_with (at_make; refine wpList_make_full _ rfl _ _ 33 rfl w.heap.size 27 i0 _ 3 Try.underlying33 hi hz0 hz1 .i64 .i64 (l.length : Int) (l.length : Int) l.length rfl rfl rfl rfl (by rw [hz2]; omega) (by unfold maxLen; omega) (by simp) ?_)
  intro w1 hown1 hg1
  have hb1 : Below w.heap.size w w1 := (Below.refl _ _).grown hg1 (Nat.le_refl _) (fun b hb => by cases hb)
  obtain ⟨xs, hown⟩ : ∃ xs : List Value, w1.ownsRow w.heap.size 27 3 (.slice (some ⟨w.heap.size, 0, none⟩) l.length l.length) l.length xs := ⟨_, hown1⟩
  have Hown := Lib.hid hown
  have Hb1 := Lib.hid hb1
  clear hown1 hown hb1 hg1
  go_wp2_with fail
  go_loopw [4] (fun i wr => ∃ (j : Nat) (xs : List Value) (F : List Nat), j ≤ l.length ∧ i = .int .i64 j ∧ wr.ownsRow w.heap.size 27 3 (.slice (some ⟨w.heap.size, 0, none⟩) l.length l.length) l.length xs ∧
    OwnS wr w.heap.size 2 (xs.take (j * 3)) ((l.take j).flatMap Need.row) F ∧ F.Nodup ∧ (∀ x ∈ F, x ≠ w.heap.size) ∧ Below w.heap.size w wr) (fun i _ => l.length - (intOf i).toNat)
  case atStart => exact ⟨0, xs, [], Nat.zero_le _, rfl, Hown.out, by simpa using OwnS.nil, List.nodup_nil, (fun x hx => by cases hx), Hb1.out⟩
  case round =>
    clear Hown Hb1 xs
    obtain ⟨j, xs, F, hj, rfl, hown, ho, hnd, hne, hbel⟩ := hrel
    by_cases hlt : j < l.length
    · obtain ⟨g, o, rfl, hg, us0, hus, hc, hls⟩ := (Hk.out.below hbel).get hlt
      have hwt : l[j].wt ≤ 1048576 := by have h1 := wsum_mem Need.wt hlt; have h2 := Hw.out; omega
      have HC := Lib.hid (toNeed l[j] _ us0 wr hls hwt)
      obtain ⟨A2, c2, rfl, hwf, k2, m2, l2⟩ := Need.opened hls
      have q0 : wr.cell? ⟨g, o + j * 3, none⟩ = some (.string l[j].key) := hc 0 _ rfl
      have q1 : wr.cell? ⟨g, o + j * 3 + 1, none⟩ = some (.int .i64 l[j].op) := hc 1 _ rfl
      have q2 : wr.cell? ⟨g, o + j * 3 + 2, none⟩ = some (.slice A2 l[j].values.length c2) := hc 2 _ rfl
      have hr1 : (l.take (j + 1)).flatMap Need.row = (l.take j).flatMap Need.row ++ l[j].row := by
        rw [List.take_succ_eq_append_getElem hlt, List.flatMap_append]; simp
      have Hr1 := Lib.hid hr1
      have Hown := Lib.hid hown
      have Ho := Lib.hid ho
      have Hbel := Lib.hid hbel
      have hlb : w.heap.size < wr.heap.size := (hown.lt w.heap.size rfl).2
      have Hlb := Lib.hid hlb
      have hrl := Need.row_length l[j]
      have Hrl := Lib.hid hrl
      clear hls hg hwf hr1 hown ho hbel hlb hus hc hwt hrl k2 m2 l2
      generalize l[j] = x at HC Hr1 Hrl q0 q1 q2
      go_wp2_with fail
      refine HC.out.mono ?_
      rintro e w2 ⟨us, G, rfl, hoG, hnG, hb2⟩
      have hlen : us.length = 3 := by rw [hoG.1, Hrl.out]
      have hown2 := own_below' Hown.out hb2
      have ho2 := Ho.out.below hb2
      have hthere := own_there hown2 (j * 3) us.toArray.size (by simp [hlen]; omega)
      have hone := hoG.one
      have hsize : (Try.prog.info? 27).map (·.size) = some us.toArray.size := by rw [List.size_toArray, hlen]; exact sizeNeed
      have Hfill := Lib.hid (own_fill hown2 hlt hlen ho2 hnd hne (hoG.lower (Nat.le_trans Hbel.out.size (Nat.le_refl _))) hnG (fun y hy hyG => by have h1 := (Ho.out.range y hy).2; have h2 := (hoG.range y hyG).1; omega) (fun y hy => by have h1 := (hoG.range y hy).1; have h2 := Hlb.out; omega) rfl)
      have Hbel2 := Lib.hid (Hbel.out.trans (hb2.mono Hbel.out.size))
      clear HC hoG hnG hb2 hown2 ho2 Ho hnd hne Hown Hbel q0 q1 q2
      go_wp2_with (first | (refine Go.wpList_store_mid rfl 27 _ _ rfl w.heap.size (j * 3) us.toArray rfl rfl hthere hsize hone ?_) | fail)
      have hf := Hfill.out
      rw [← Hr1.out] at hf
      have hbel3 : Below w.heap.size w (w2.setCells w.heap.size (j * 3) us) := Hbel2.out.grown hf.2.2.2.2 Hbel2.out.size (fun b hb => by injection hb with hb; omega)
      have HF := Lib.hid hf
      have Hbel3 := Lib.hid hbel3
      clear hf hbel3 Hfill hthere hone hsize
      go_wp2_with fail
      go_roundw
      case rel => exact ⟨j + 1, _, _, by omega, by go_num, HF.out.1, HF.out.2.1, HF.out.2.2.1, HF.out.2.2.2.1, Hbel3.out⟩
      case measure => simp [intOf]; omega
    · obtain rfl : j = l.length := by omega
      rw [List.take_of_length_le (Nat.le_refl _)] at ho
      have HR := Lib.hid (own_filled hown (by rw [flat_length' Need.row_length]) ho hnd hne)
      have Hbel := Lib.hid hbel
      clear hown ho hbel
      go_wp2_with fail
      go_ret
      exact ⟨_, rfl, HR.out, Hbel.out⟩
end Go.Proofs.Ytjcfaepklakpkaa.ty
