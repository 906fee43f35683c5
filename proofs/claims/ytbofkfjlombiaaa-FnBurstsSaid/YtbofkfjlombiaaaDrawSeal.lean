/- spec.DrawSealed, spec.DrawSumOf: some string of at most 20001 bytes, of at most 39. -/
import Derived.Test.YtbofkfjlombiaaaDrawText
import Derived.Test.YtbofkfjlombiaaaDrawOnce
namespace Go.Proofs.Ytbofkfjlombiaaa.draw
open Go.ChangeShapes Go.WideShapes Go.ChangeAt Go.RowKit
set_option linter.unusedVariables false

theorem TryinfoB : (Try.prog.info? 5).map (fun i => (i.zero, i.size, i.bytes)) = some (some (.int .u8 0), 1, 1) := by kernel_rfl

/-- Some string of n bytes. -/
theorem long7_any (n : Nat) (w : World) (hn : n ≤ 20001) :
    Calls Try.prog 26 #[.int .i64 n, .int .u8 7] w fun e w' => ∃ t : ByteArray, t.size = n ∧ e = .returned (.string t) ∧ Below w.heap.size w w' := by
  obtain ⟨i0, hi, hz0, hz1, hz2⟩ := info_parts TryinfoB
  go_enter Try.func26, Try.ntmps26
  go_wp2_with (at_make; refine wpList_make_full _ rfl _ _ 22 rfl w.heap.size 5 i0 (.int .u8 0) 1 Try.underlying22 hi hz0 hz1 .i64 .i64 (n : Int) (n : Int) n rfl rfl rfl rfl (by rw [hz2]; omega) (by unfold maxLen; omega) (by simp) ?_)
  intro w1 hown1 hg1
  have hb1 : Below w.heap.size w w1 := (Below.refl _ _).grown hg1 (Nat.le_refl _) (fun b hb => by cases hb)
  have Hown : Hid (∃ l : List UInt8, l.length = n ∧ w1.ownsRow w.heap.size 5 1 (.slice (some ⟨w.heap.size, 0, none⟩) n n) n (bcells l)) := by
    refine ⟨List.replicate n 0, by simp, ?_⟩
    have e : bcells (List.replicate n (0 : UInt8)) = (madeCells #[.int .u8 0] n).toList := by rw [toList_madeCells_one]; simp [bcells]
    rw [e]
    simpa using hown1
  have Hb1 := Lib.hid hb1
  clear hown1 hb1 hg1
  go_wp2_with fail
  go_loopw [6] (fun i wr => ∃ k : Nat, k ≤ n ∧ i = .int .i64 k ∧ (∃ l : List UInt8, l.length = n ∧ wr.ownsRow w.heap.size 5 1 (.slice (some ⟨w.heap.size, 0, none⟩) n n) n (bcells l)) ∧ Below w.heap.size w wr) (fun i _ => n - (intOf i).toNat)
  case atStart => exact ⟨0, Nat.zero_le _, rfl, Hown.out, Hb1.out⟩
  case round =>
    clear Hown Hb1
    obtain ⟨k, hk, rfl, ⟨l, hl, hown⟩, hbel⟩ := hrel
    by_cases hlt : k < n
    · have hd := hown.cellAt k (by omega)
      have hf := hown.frozenAt k
      have hln : k < (bcells l).length := by have := hown.1; omega
      rw [List.getElem?_eq_getElem hln] at hd
      have hst := hown.stored k (.int .u8 7)
      have e : (bcells l).set k (.int .u8 7) = bcells (l.set k 7) := by
        unfold bcells
        rw [List.map_set]
        rfl
      rw [e] at hst
      have Hown2 : Hid (∃ l2 : List UInt8, l2.length = n ∧ (wr.setCell ⟨w.heap.size, k, none⟩ (.int .u8 7)).ownsRow w.heap.size 5 1 (.slice (some ⟨w.heap.size, 0, none⟩) n n) n (bcells l2)) := ⟨l.set k 7, by rw [List.length_set]; exact hl, hst.1⟩
      have Hbel2 : Hid (Below w.heap.size w (wr.setCell ⟨w.heap.size, k, none⟩ (.int .u8 7))) := hbel.setCell (Nat.le_refl _) _
      clear hst hown hbel e
      generalize (bcells l)[k] = old at hd
      clear hln hl
      go_wp2_with fail
      go_roundw
      case rel => exact ⟨k + 1, by omega, by go_num, Hown2.out, Hbel2.out⟩
      case measure => simp [intOf]; omega
    · obtain rfl : k = n := by omega
      have hcv := run_convert_own (P := Try.prog) wr 22 5 9 Try.underlying22 Try.underlying5 Try.underlying9 w.heap.size _ l (by unfold OwnB; rw [hl]; exact hown)
      have Hl : Hid ((⟨l.toArray⟩ : ByteArray).size = k) := by
        unfold Hid
        show l.toArray.size = k
        rw [List.size_toArray, hl]
      have Hbel := Lib.hid hbel
      clear hown hbel hl
      go_wp2_with fail
      go_ret
      exact ⟨_, Hl.out, rfl, Hbel.out⟩

/-- A short text. -/
theorem sumOf_any (A : Option Addr) (len cap : Nat) (zs : List Int) (w : World) (hr : IsRow .u8 w A len cap zs) (hlen : len ≤ 1048576) :
    Calls Try.prog 17 #[.slice A len cap] w fun e w' => ∃ t : ByteArray, t.size < 40 ∧ e = .returned (.string t) ∧ Below w.heap.size w w' := by
  have HN := Lib.hid (new_any A len cap zs w hr hlen)
  clear hr
  go_enter Try.func17, Try.ntmps17
  go_wp2_with fail
  refine HN.out.mono ?_
  clear HN
  rintro e w1 ⟨c, rfl, hcw, hc1, hb1⟩
  generalize (fun j => zs.getD j 0) = z at hc1
  have HP := Lib.hid (below_any c A len cap z 40 w1 hc1 (by decide) (by decide))
  have Hb1 := Lib.hid hb1
  clear hc1 hb1
  go_wp2_with fail
  refine HP.out.mono ?_
  clear HP
  rintro e w2 ⟨x, hx, rfl, hc2, hg2⟩
  have Hb2 := Lib.hid (Hb1.out.grown hg2 Hb1.out.size (fun b hb => by injection hb with hb; omega))
  clear Hb1 hg2
  obtain ⟨n, rfl⟩ := Int.eq_ofNat_of_zero_le hx.1
  have HT := Lib.hid (text_any c A len cap z n w2 hc2 (by omega))
  clear hc2
  go_wp2_with fail
  refine HT.out.mono ?_
  clear HT
  rintro e w3 ⟨l, hl, rfl, hc3, hg3⟩
  have Hb3 := Lib.hid (Hb2.out.grown hg3 Hb2.out.size (fun b hb => by injection hb with hb; omega))
  have Hl : Hid ((⟨l.toArray⟩ : ByteArray).size < 40) := by
    unfold Hid
    show l.toArray.size < 40
    rw [List.size_toArray]; omega
  clear hl hc3 hg3 Hb2
  go_wp2_with fail
  go_ret
  exact ⟨_, Hl.out, rfl, Hb3.out⟩

/-- A short text, or a long one of one kind of byte. -/
theorem sealed_any (A : Option Addr) (len cap : Nat) (zs : List Int) (w : World) (hr : IsRow .u8 w A len cap zs) (hlen : len ≤ 1048576) :
    Calls Try.prog 11 #[.slice A len cap] w fun e w' => ∃ t : ByteArray, t.size ≤ 20001 ∧ e = .returned (.string t) ∧ Below w.heap.size w w' := by
  have HN := Lib.hid (new_any A len cap zs w hr hlen)
  clear hr
  go_enter Try.func11, Try.ntmps11
  go_wp2_with fail
  refine HN.out.mono ?_
  clear HN
  rintro e w1 ⟨c, rfl, hcw, hc1, hb1⟩
  generalize (fun j => zs.getD j 0) = z at hc1
  have HO := Lib.hid (once_any c A len cap z 30 w1 hc1 (by decide) (by decide))
  have Hb1 := Lib.hid hb1
  clear hc1 hb1
  go_wp2_with fail
  refine HO.out.mono ?_
  clear HO
  rintro e w2 ⟨b, rfl, hc2, hg2⟩
  have Hb2 := Lib.hid (Hb1.out.grown hg2 Hb1.out.size (fun b hb => by injection hb with hb; omega))
  clear Hb1 hg2
  cases b with
  | true =>
    have HP := Lib.hid (below_any c A len cap z 2 w2 hc2 (by decide) (by decide))
    clear hc2
    go_wp2_with fail
    refine HP.out.mono ?_
    clear HP
    rintro e w3 ⟨x, hx, rfl, hc3, hg3⟩
    have Hb3 := Lib.hid (Hb2.out.grown hg3 Hb2.out.size (fun b hb => by injection hb with hb; omega))
    clear Hb2 hg3 hc3
    obtain ⟨n, hn⟩ : ∃ n : Nat, 20000 + x = (n : Int) := ⟨(20000 + x).toNat, by omega⟩
    have HL := Lib.hid (fun w => long7_any n w (by omega))
    go_wp2_with fail
    refine (HL.out _).mono ?_
    clear HL
    rintro e w4 ⟨t, ht, rfl, hb4⟩
    have Hb4 := Lib.hid (Hb3.out.trans (hb4.mono Hb3.out.size))
    have Ht : Hid (t.size ≤ 20001) := by unfold Hid; omega
    clear hb4 Hb3 ht hx hn
    go_wp2_with fail
    go_ret
    exact ⟨_, Ht.out, rfl, Hb4.out⟩
  | false =>
    have HP := Lib.hid (below_any c A len cap z 40 w2 hc2 (by decide) (by decide))
    clear hc2
    go_wp2_with fail
    refine HP.out.mono ?_
    clear HP
    rintro e w3 ⟨x, hx, rfl, hc3, hg3⟩
    have Hb3 := Lib.hid (Hb2.out.grown hg3 Hb2.out.size (fun b hb => by injection hb with hb; omega))
    clear Hb2 hg3
    obtain ⟨n, rfl⟩ := Int.eq_ofNat_of_zero_le hx.1
    have HT := Lib.hid (text_any c A len cap z n w3 hc3 (by omega))
    clear hc3
    go_wp2_with fail
    refine HT.out.mono ?_
    clear HT
    rintro e w4 ⟨l, hl, rfl, hc4, hg4⟩
    have Hb4 := Lib.hid (Hb3.out.grown hg4 Hb3.out.size (fun b hb => by injection hb with hb; omega))
    have Hl : Hid ((⟨l.toArray⟩ : ByteArray).size ≤ 20001) := by
      unfold Hid
      show l.toArray.size ≤ 20001
      rw [List.size_toArray]; omega
    clear hl hc4 hg4 Hb3
    go_wp2_with fail
    go_ret
    exact ⟨_, Hl.out, rfl, Hb4.out⟩
end Go.Proofs.Ytbofkfjlombiaaa.draw
