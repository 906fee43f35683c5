/- Drawn strings: l01Long. -/
import Derived.Test.YtiibldfkefihlaaDoorDrawPickS
namespace Go.Proofs.YtiibldfkefihlaaDoor.draw
open Go.ChangeShapes Go.WideShapes Go.ChangeAt Go.RowKit
set_option linter.unusedVariables false

theorem TrydinfoB : (Tryd.prog.info? 5).map (fun i => (i.zero, i.size, i.bytes)) = some (some (.int .u8 0), 1, 1) := by kernel_rfl

/-- Some string of n bytes. -/
theorem long_any (n : Nat) (w : World) (hn : n ≤ 1000) :
    Calls Tryd.prog 42 #[.int .i64 n, .int .u8 57] w fun e w' => ∃ t : ByteArray, t.size = n ∧ e = .returned (.string t) ∧ Below w.heap.size w w' := by
  obtain ⟨i0, hi, hz0, hz1, hz2⟩ := info_parts TrydinfoB
  go_enter Tryd.func42, Tryd.ntmps42
  go_wp2_with (at_make; refine wpList_make_full _ rfl _ _ 22 rfl w.heap.size 5 i0 (.int .u8 0) 1 Tryd.underlying22 hi hz0 hz1 .i64 .i64 (n : Int) (n : Int) n rfl rfl rfl rfl (by rw [hz2]; omega) (by unfold maxLen; omega) (by simp) ?_)
  intro w1 hown1 hg1
  have hb1 : Below w.heap.size w w1 := (Below.refl _ _).grown hg1 (Nat.le_refl _) (fun b hb => by cases hb)
  have Hown : Hid (∃ l : List UInt8, l.length = n ∧ w1.ownsRow w.heap.size 5 1 (.slice (some ⟨w.heap.size, 0, none⟩) n n) n (bcells l)) := by
    refine ⟨List.replicate n 0, by simp, ?_⟩
    have e : bcells (List.replicate n (0 : UInt8)) = (madeCells #[.int .u8 0] n).toList := by rw [toList_madeCells_one]; simp [bcells]
    rw [e]
    simpa using hown1
  have Hb1 := Lib.hid hb1
  clear hown1 hb1 hg1
  go_wp2_with fail
  go_loopw [6] (fun i wr => ∃ k : Nat, k ≤ n ∧ i = .int .i64 k ∧ (∃ l : List UInt8, l.length = n ∧ wr.ownsRow w.heap.size 5 1 (.slice (some ⟨w.heap.size, 0, none⟩) n n) n (bcells l)) ∧ Below w.heap.size w wr) (fun i _ => n - (intOf i).toNat)
  case atStart => exact ⟨0, Nat.zero_le _, rfl, Hown.out, Hb1.out⟩
  case round =>
    clear Hown Hb1
    obtain ⟨k, hk, rfl, ⟨l, hl, hown⟩, hbel⟩ := hrel
    by_cases hlt : k < n
    · have hd := hown.cellAt k (by omega)
      have hf := hown.frozenAt k
      have hln : k < (bcells l).length := by have := hown.1; omega
      rw [List.getElem?_eq_getElem hln] at hd
      have hst := hown.stored k (.int .u8 57)
      have e : (bcells l).set k (.int .u8 57) = bcells (l.set k 57) := by
        unfold bcells
        rw [List.map_set]
        rfl
      rw [e] at hst
      have Hown2 : Hid (∃ l2 : List UInt8, l2.length = n ∧ (wr.setCell ⟨w.heap.size, k, none⟩ (.int .u8 57)).ownsRow w.heap.size 5 1 (.slice (some ⟨w.heap.size, 0, none⟩) n n) n (bcells l2)) := ⟨l.set k 57, by rw [List.length_set]; exact hl, hst.1⟩
      have Hbel2 : Hid (Below w.heap.size w (wr.setCell ⟨w.heap.size, k, none⟩ (.int .u8 57))) := hbel.setCell (Nat.le_refl _) _
      clear hst hown hbel e
      generalize (bcells l)[k] = old at hd
      clear hln hl
      go_wp2_with fail
      go_roundw
      case rel => exact ⟨k + 1, by omega, by go_num, Hown2.out, Hbel2.out⟩
      case measure => simp [intOf]; omega
    · obtain rfl : k = n := by omega
      have hcv := run_convert_own (P := Tryd.prog) wr 22 5 9 Tryd.underlying22 Tryd.underlying5 Tryd.underlying9 w.heap.size _ l (by unfold OwnB; rw [hl]; exact hown)
      have Hl : Hid ((⟨l.toArray⟩ : ByteArray).size = k) := by
        unfold Hid
        show l.toArray.size = k
        rw [List.size_toArray, hl]
      have Hbel := Lib.hid hbel
      clear hown hbel hl
      go_wp2_with fail
      go_ret
      exact ⟨_, Hl.out, rfl, Hbel.out⟩
end Go.Proofs.YtiibldfkefihlaaDoor.draw
