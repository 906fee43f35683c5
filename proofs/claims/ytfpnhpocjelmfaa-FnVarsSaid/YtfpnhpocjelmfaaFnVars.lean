/- FnVars: for every byte slice the law returns true. -/
import Derived.Test.YtfpnhpocjelmfaaDrawVar
import Derived.Test.YtfpnhpocjelmfaaVarSizeI
import Derived.Test.YtfpnhpocjelmfaaReadVarI
import Derived.Test.YtfpnhpocjelmfaaBigL
import Derived.Laws.IdiomStrings
namespace Go.Proofs.Ytfpnhpocjelmfaa.fnVars
open Go.ChangeShapes Go.WideShapes Go.ChangeAt Go.RowKit
open varint
set_option linter.unusedVariables false

theorem one_text : varF 1 = ⟨#[1]⟩ := by
  have h := varF_nat 1
  rw [varL_small (by decide)] at h
  exact h

/-- '[]byte(s)': new cells that hold the bytes of s and can be written. -/
theorem bytes_of (l : List UInt8) (n : Nat) (hn : l.length = n) (w : World) : ∃ (cap : Nat) (w' : World),
    (convert 9 22 (.string ⟨l.toArray⟩)).run Try.prog w = .ok (.slice (some ⟨w.heap.size, 0, none⟩) n cap) w' ∧ Below w.heap.size w w' ∧
    (∀ (j : Nat) (h : j < l.length), w'.cell? ⟨w.heap.size, j, none⟩ = some (.int .u8 (l[j].toNat : Int)) ∧ w'.frozen? ⟨w.heap.size, j, none⟩ = false) := by
  subst hn
  have h := run_bytes_of_string (P := Try.prog) w 9 22 5 ⟨l.toArray⟩ Try.underlying9 Try.underlying22 Try.underlying5
  have hs : (⟨l.toArray⟩ : ByteArray).size = l.length := by show l.toArray.size = _; rw [List.size_toArray]
  rw [hs] at h
  refine ⟨_, _, h, ((Below.refl _ _).drew).alloc (Nat.le_refl _) _, fun j hj => ⟨?_, ?_⟩⟩
  · have hj2 : j < (⟨l.toArray⟩ : ByteArray).data.size := by show j < l.toArray.size; rw [List.size_toArray]; exact hj
    have h1 := World.cell?_alloc_mark w.drew (bytesRow ⟨l.toArray⟩ (grownCap w l.length 0 5)) 5 ((bytesRow ⟨l.toArray⟩ (grownCap w l.length 0 5)).size, (bytesRow ⟨l.toArray⟩ (grownCap w l.length 0 5)).size + 1) j
    refine h1.trans ?_
    rw [bytesRow_at _ _ _ hj2]
    rfl
  · have h1 := World.frozen?_alloc_mark w.drew (bytesRow ⟨l.toArray⟩ (grownCap w l.length 0 5)) 5 (bytesRow ⟨l.toArray⟩ (grownCap w l.length 0 5)).size ((bytesRow ⟨l.toArray⟩ (grownCap w l.length 0 5)).size + 1) j
    refine h1.trans ?_
    have hl : l.length ≤ (bytesRow ⟨l.toArray⟩ (grownCap w l.length 0 5)).size := by
      unfold bytesRow
      simp
    rw [decide_eq_false (by omega : ¬ (bytesRow ⟨l.toArray⟩ (grownCap w l.length 0 5)).size ≤ j)]
    rfl

/-- The bytes whose last one has got the high bit, and a 0 behind: no number. -/
theorem long_no (N : Nat) (hN : (N : Int) ≤ 9223372036854775807) (m : Nat) (hm : (varL N).length = m + 1) (b : UInt8) (hb : 128 ≤ b.toNat) :
    readF (⟨((varL N).set m b).toArray⟩ ++ ⟨#[0]⟩) 0 = (0, -1) := by
  have hN2 : N < 128 ^ (8 + 1) := by show N < 9223372036854775808; omega
  have e : (⟨((varL N).set m b).toArray⟩ ++ ⟨#[0]⟩ : ByteArray) = ⟨((varL N).set m b ++ [0]).toArray⟩ := bytes_append _ [0]
  rw [e]
  have e0 : (0 : Int) = ((0 : Nat) : Int) := rfl
  rw [e0, readF_nat]
  have hlen : ((varL N).set m b).length = m + 1 := by rw [List.length_set, hm]
  refine look_none (L := m + 1) ?_ (by omega) ?_ ?_ 9 0 (by omega)
  · show ((varL N).set m b ++ [0]).toArray.size = _
    rw [List.size_toArray, List.length_append, hlen]; rfl
  · intro j hj
    unfold at_
    show 128 ≤ ((((varL N).set m b ++ [0]).toArray.toList.getD j 0).toNat : Int)
    rw [List.toList_toArray, List.getD_eq_getElem?_getD, List.getElem?_append_left (by omega)]
    by_cases ej : j = m
    · subst ej
      rw [List.getElem?_set_self (by omega)]
      simp only [Option.getD_some]
      omega
    · rw [List.getElem?_set_ne (by omega), ← List.getD_eq_getElem?_getD]
      have := varL_more 8 N hN2 j (by omega)
      omega
  · unfold at_
    show ((((varL N).set m b ++ [0]).toArray.toList.getD (m + 1) 0).toNat : Int) = 0
    rw [List.toList_toArray, List.getD_eq_getElem?_getD, List.getElem?_append_right (by omega), hlen, Nat.sub_self]
    rfl
theorem read_behind (N : Nat) (hN : (N : Int) ≤ 9223372036854775807) (m : Nat) (hm : (varL N).length = m + 1) :
    readF (⟨#[120, 120]⟩ ++ ⟨(varL N).toArray⟩ ++ ⟨#[121]⟩) 2 = ((N : Int), 2 + ((m : Int) + 1)) := by
  have e : (⟨#[120, 120]⟩ ++ ⟨(varL N).toArray⟩ ++ ⟨#[121]⟩ : ByteArray) = ⟨([120, 120] ++ (varL N ++ [121])).toArray⟩ := by
    have h1 := bytes_append [120, 120] (varL N)
    have h2 := bytes_append ([120, 120] ++ varL N) [121]
    rw [List.append_assoc] at h2
    exact (congrArg (· ++ (⟨#[121]⟩ : ByteArray)) h1).trans h2
  rw [e]
  have h := read_var hN [120, 120] [121]
  have e2 : (([120, 120] : List UInt8).length : Int) = 2 := rfl
  rw [e2, hm] at h
  rw [h]
  refine Prod.ext rfl ?_
  show (((([120, 120] : List UInt8).length + (m + 1) : Nat)) : Int) = _
  simp only [List.length_cons, List.length_nil]
  omega

set_option maxRecDepth 100000 in
set_option maxHeartbeats 16000000 in
theorem walk (A : Option Addr) (len cap : Nat) (zs : List Int) (W : World) (hr : IsRow .u8 W A len cap zs) :
    Calls Try.prog 3 #[.slice A len cap] W fun e w' => e = .returned (.bool true) ∧ Below W.heap.size W w' := by
  have hm := hr.le
  have hB := Lib.hid (lawBig.any A len cap W hm)
  unfold maxLen at hm
  by_cases h1 : 1048576 < len
  · clear hr
    go_enter Try.func3, Try.ntmps3
    go_wp2_with fail
    refine hB.out.mono ?_
    rintro e w1 ⟨rfl, rfl⟩
    go_wp2_with fail
    go_ret
    exact ⟨rfl, Below.refl _ _⟩
  have HD := Lib.hid (draw.varText_any A len cap zs W hr (by omega))
  clear hr
  go_enter Try.func3, Try.ntmps3
  go_wp2_with fail
  refine hB.out.mono ?_
  rintro e w1 ⟨rfl, rfl⟩
  clear hB
  go_wp2_with fail
  refine HD.out.mono ?_
  rintro e w1 ⟨n, hn, rfl, hb1⟩
  clear HD
  have n0 := hn.1
  have n1 := hn.2
  clear hn
  by_cases h0 : n < 0
  · have H1 := Lib.hid (fun w => impl_neg n w h0)
    have H2 := Lib.hid (fun w => impl_any 1 w (by decide))
    rw [one_text] at H2
    go_wp2_with fail
    refine (H1.out _).mono ?_
    rintro e w2 ⟨rfl, rfl⟩
    clear H1
    go_wp2_with fail
    refine (H2.out _).mono ?_
    rintro e w2 ⟨rfl, hb2⟩
    clear H2
    go_wp2_with fail
    go_ret
    exact ⟨rfl, hb1.trans (hb2.mono hb1.size)⟩
  obtain ⟨N, rfl⟩ := Int.eq_ofNat_of_zero_le (by omega : 0 ≤ n)
  have h9 := varL_nine n1
  have hp := varL_pos N
  obtain ⟨m, hL⟩ : ∃ m, (varL N).length = m + 1 := ⟨(varL N).length - 1, by omega⟩
  have hN2 : N < 128 ^ (8 + 1) := by show N < 9223372036854775808; omega
  have hlast := varL_last 8 N hN2
  rw [hL, Nat.add_sub_cancel] at hlast
  have K0 := Lib.hid (fun w => impl_nat N w n1)
  have hsz : (⟨(varL N).toArray⟩ : ByteArray).size = m + 1 := by show (varL N).toArray.size = _; rw [List.size_toArray, hL]
  have hemp := empty_no (f := ⟨(varL N).toArray⟩) (by omega)
  have K1 := Lib.hid (fun w => impl_read (⟨#[120, 120]⟩ ++ ⟨(varL N).toArray⟩ ++ ⟨#[121]⟩) 2 w (by
    unfold maxLen
    rw [ByteArray.size_append, ByteArray.size_append, hsz]
    show 2 + (m + 1) + 1 ≤ _
    omega) ⟨by decide, by decide⟩)
  rw [read_behind N n1 m hL] at K1
  unfold pair at K1
  have K3 := Lib.hid (fun w => impl_size N w n1)
  rw [varF_nat, hsz] at K3
  have HC := Lib.hid (bytes_of (varL N) (m + 1) hL)
  have HNo := Lib.hid (fun b hb => long_no N n1 m hL b hb)
  have hm8 : m ≤ 8 := by omega
  generalize hl : varL N = l at K0 K1 K3 HC HNo hsz hemp hL hlast
  clear hl h9 hp hN2
  have hml : m < l.length := by omega
  rw [List.getD_eq_getElem?_getD, List.getElem?_eq_getElem hml, Option.getD_some] at hlast
  have h1' : ¬ 9223372036854775807 < 2 + (⟨l.toArray⟩ : ByteArray).size := by omega
  have h2' : ¬ 9223372036854775807 < 2 + (⟨l.toArray⟩ : ByteArray).size + 1 := by omega
  have HX : Hid (∀ w3 : World, ∃ (cp : Nat) (w4 : World) (x : Int) (s2 : ByteArray), (convert 9 22 (.string ⟨l.toArray⟩)).run Try.prog w3 = .ok (.slice (some ⟨w3.heap.size, 0, none⟩) (m + 1) cp) w4 ∧ Below w3.heap.size w3 w4 ∧
      0 ≤ x ∧ x < 128 ∧ w4.cell? ⟨w3.heap.size, m, none⟩ = some (.int .u8 x) ∧ w4.frozen? ⟨w3.heap.size, m, none⟩ = false ∧ s2.size = m + 1 ∧
      (convert 22 9 (.slice (some ⟨w3.heap.size, 0, none⟩) (m + 1) cp)).run Try.prog (w4.setCell ⟨w3.heap.size, m, none⟩ (.int .u8 (x + 128))) = .ok (.string s2) (w4.setCell ⟨w3.heap.size, m, none⟩ (.int .u8 (x + 128))) ∧
      ∀ w, Calls Try.prog 15 #[.string (s2 ++ ⟨#[0]⟩), .int .i64 0] w fun e w' => e = .returned (.tuple #[.int .i64 0, .int .i64 (-1)]) ∧ Below w.heap.size w w') := by
    intro w3
    obtain ⟨cp, w4, hcv, hb4, hcells⟩ := HC.out w3
    obtain ⟨c1, c2⟩ := hcells m hml
    have eb : (UInt8.ofNat (l[m].toNat + 128)).toNat = l[m].toNat + 128 := by simp; omega
    have hs2 : (⟨(l.set m (UInt8.ofNat (l[m].toNat + 128))).toArray⟩ : ByteArray).size = m + 1 := by show (l.set m _).toArray.size = _; rw [List.size_toArray, List.length_set, hL]
    refine ⟨cp, w4, (l[m].toNat : Int), ⟨(l.set m (UInt8.ofNat (l[m].toNat + 128))).toArray⟩, hcv, hb4, by omega, by omega, c1, c2, hs2, ?_, ?_⟩
    · have hset : ∀ (j : Nat) (hj : j < (l.set m (UInt8.ofNat (l[m].toNat + 128))).length), (w4.setCell ⟨w3.heap.size, m, none⟩ (.int .u8 ((l[m].toNat : Int) + 128))).cell? ((⟨w3.heap.size, 0, none⟩ : Addr).add j) = some (.int .u8 ((l.set m (UInt8.ofNat (l[m].toNat + 128)))[j].toNat : Int)) := by
        intro j hj
        have hj2 : j < l.length := by rw [List.length_set] at hj; exact hj
        rw [Addr.add_lit, Nat.zero_add]
        by_cases ej : j = m
        · subst ej
          rw [World.cell?_setCell_same _ _ _ c1, List.getElem_set_self, eb]
          rfl
        · rw [World.cell?_setCell_other _ _ _ _ (by intro h; simp only [Addr.mk.injEq] at h; omega), List.getElem_set_ne (by omega)]
          exact (hcells j hj2).1
      have h := run_convert_bytes_back (P := Try.prog) (w4.setCell ⟨w3.heap.size, m, none⟩ (.int .u8 ((l[m].toNat : Int) + 128))) 22 9 5 ⟨w3.heap.size, 0, none⟩ cp (l.set m (UInt8.ofNat (l[m].toNat + 128))) Try.underlying22 Try.underlying5 Try.underlying9 hset
      rw [List.length_set, hL] at h
      exact h
    · intro w
      have h := impl_read (⟨(l.set m (UInt8.ofNat (l[m].toNat + 128))).toArray⟩ ++ ⟨#[0]⟩) 0 w (by
        unfold maxLen
        rw [ByteArray.size_append, hs2]
        show m + 1 + 1 ≤ _
        omega) ⟨by decide, by decide⟩
      rw [HNo.out _ (by omega)] at h
      exact h
  clear HC HNo hlast hL hml
  generalize (⟨l.toArray⟩ : ByteArray) = s at K0 K1 HX hsz hemp h1' h2'
  go_wp2_with fail
  refine (K0.out _).mono ?_
  rintro e w2 ⟨rfl, hb2⟩
  have hb12 := hb1.trans (hb2.mono hb1.size)
  clear K0 hb1 hb2
  go_wp2_with fail
  refine (K1.out _).mono ?_
  rintro e w3 ⟨rfl, hb3⟩
  have hb13 := hb12.trans (hb3.mono hb12.size)
  clear K1 hb12 hb3
  obtain ⟨cp, w4, x, s2, hcv, hb4, x0, x1, c1, c2, hs2, hback, K2⟩ := HX.out w3
  have ew : IntKind.u8.wrap (x + 128) = x + 128 := by rw [IntKind.wrap_u8]; omega
  have hb14 := (hb13.trans (hb4.mono hb13.size)).setCell (p := ⟨w3.heap.size, m, none⟩) hb13.size (.int .u8 (x + 128))
  have h3' : ¬ 9223372036854775807 < s2.size + 1 := by omega
  have HK2 := Lib.hid K2
  have Hb14 := Lib.hid hb14
  clear HX hb13 hb4 K2 hb14
  go_wp2_with fail
  refine (HK2.out _).mono ?_
  rintro e w5 ⟨rfl, hb5⟩
  have Hb15 := Lib.hid (Hb14.out.trans (hb5.mono Hb14.out.size))
  clear HK2 Hb14 hb5 hcv hback c1 c2
  go_wp2_with fail
  refine (K3.out _).mono ?_
  rintro e w6 ⟨rfl, hb6⟩
  have Hb16 := Lib.hid (Hb15.out.trans (hb6.mono Hb15.out.size))
  clear K3 Hb15 hb6
  go_wp2_with fail
  go_ret
  exact ⟨rfl, Hb16.out⟩
end Go.Proofs.Ytfpnhpocjelmfaa.fnVars
