/- strconv.ParseUint(t, 16, 16) at a text of four bytes: the number of its digits, or an error. -/
import Derived.Test.YtnaeanhcmpmojaaDoorReadQM
import Derived.Test.YtnaeanhcmpmojaaDoorInS
import Derived.Test.YtnaeanhcmpmojaaDoorShelf
import Derived.Lib.ConvBytes
import Derived.Lib.Strings
import Derived.Lib.Walk
import Derived.Lib.Hide
import Derived.Laws.Closers25
import Derived.Laws.Closers25b
import Derived.BigCall
import Derived.BigGuard
namespace Go.Proofs.YtnaeanhcmpmojaaDoor.readq
open Go.ChangeShapes Go.WideShapes Go.ChangeAt Go.RowKit
set_option linter.unusedVariables false

/-- A byte, its case taken away. -/
def low (x : Int) : Int := bits .or .u8 x 32
theorem low_all : ∀ n : Fin 256, ((0 ≤ hexv (n.val : Int) ∧ ¬ (48 ≤ (n.val : Int) ∧ (n.val : Int) ≤ 57) → 97 ≤ low n.val ∧ low n.val ≤ 102 ∧ hexv n.val = low n.val - 87) ∧ (hexv (n.val : Int) < 0 → low n.val < 97 ∨ 102 < low n.val)) ∧ 0 ≤ low n.val ∧ low n.val < 256 := by decide +kernel
theorem low_bd (x : Int) (h0 : 0 ≤ x) (h1 : x < 256) : 0 ≤ low x ∧ low x < 256 := by
  have h := low_all ⟨x.toNat, by omega⟩
  have e : ((x.toNat : Nat) : Int) = x := by omega
  simp only [e] at h
  exact h.2
theorem low_yes (x : Int) (h0 : 0 ≤ x) (h1 : x < 256) (h : 0 ≤ hexv x) (h2 : ¬ (48 ≤ x ∧ x ≤ 57)) : 97 ≤ low x ∧ low x ≤ 102 ∧ hexv x = low x - 87 := by
  have h' := low_all ⟨x.toNat, by omega⟩
  have e : ((x.toNat : Nat) : Int) = x := by omega
  simp only [e] at h'
  exact h'.1.1 ⟨h, h2⟩
theorem low_no (x : Int) (h0 : 0 ≤ x) (h1 : x < 256) (h : hexv x < 0) : low x < 97 ∨ 102 < low x := by
  have h' := low_all ⟨x.toNat, by omega⟩
  have e : ((x.toNat : Nat) : Int) = x := by omega
  simp only [e] at h'
  exact h'.1.2 h
theorem hexv_dig {x : Int} (h : 48 ≤ x ∧ x ≤ 57) : hexv x = x - 48 := by unfold hexv; rw [if_pos h]
theorem hexv_not {x : Int} (h : hexv x < 0) : x < 48 ∨ 57 < x := by
  by_cases h2 : 48 ≤ x ∧ x ≤ 57
  · rw [hexv_dig h2] at h; omega
  · omega
theorem lower_any (x : Int) (w : World) : Calls Tryd.prog 140 #[.int .u8 x] w fun e w' => e = .returned (.int .u8 (low x)) ∧ w = w' := by
  refine (Tryd.internal_strconv_lower x w).mono ?_
  rintro e w' ⟨rfl, rfl⟩
  exact ⟨rfl, rfl⟩
theorem acc_low {s : ByteArray} {p k : Nat} (hk : k ≤ 3) (h : digs s p k) : 0 ≤ acc s p k ∧ acc s p k ≤ 4095 := by
  have h1 := acc_bd s p k h
  have h2 : (16 : Int) ^ k ≤ 16 ^ 3 := by
    match k, hk with
    | 0, _ => decide
    | 1, _ => decide
    | 2, _ => decide
    | 3, _ => decide
  have e : (16 : Int) ^ 3 = 4096 := by decide
  omega
/-- How it ends. -/
def endU (b : Bool) (n : Int) : Value := if b = true then .tuple #[.int .u64 n, .nilIface] else .tuple #[.int .u64 0, .iface 128 (.int .i64 2)]

set_option maxHeartbeats 32000000 in
set_option maxRecDepth 100000 in
theorem parse_int (t : ByteArray) (h4 : t.size = 4) (w : World) :
    Calls Tryd.prog 138 #[.string t, .int .i64 16, .int .i64 16] w fun e w' => e = .returned (endU (decide (digs t 0 4)) (acc t 0 4)) ∧ Below w.heap.size w w' := by
  have hcv := Lib.run_convert_string_bytes (P := Tryd.prog) w 9 22 5 t (u := .string) Tryd.underlying9 Tryd.underlying22 Tryd.underlying5
  have hB : ∀ j, j < t.size → (Lib.bytesWorld w 5 t).cell? ⟨w.heap.size, j, none⟩ = some (.int .u8 (at_ t j)) := fun j hj => Lib.bytesWorld_cell w 5 t j hj
  have Hbel := Lib.hid (Lib.bytesWorld_below w 5 t)
  obtain ⟨W1, hW1⟩ : ∃ W1, W1 = Lib.bytesWorld w 5 t := ⟨_, rfl⟩
  rw [← hW1] at hcv hB Hbel
  clear hW1
  have hemp := empty_no (f := t) (by omega)
  have hmv : IntKind.u64.wrap (IntKind.u64.wrap 65536 - 1) = 65535 := by
    rw [IntKind.wrap_u64, IntKind.wrap_u64]
    decide
  have HL := Lib.hid lower_any
  rw [h4] at hcv
  go_enter Tryd.func138, Tryd.ntmps138
  go_wp2_with fail
  go_loop [12, 13, 101] (fun vu vn vi => ∃ (k : Nat), vu = .bool false ∧ vn = .int .u64 (acc t 0 k) ∧ vi = .int .i64 k ∧ k ≤ 4 ∧ Hid (digs t 0 k)) (fun _ _ vi => 4 - (intOf vi).toNat)
  case atStart => exact ⟨0, rfl, rfl, rfl, by omega, fun j hj => by omega⟩
  case round =>
    obtain ⟨k, rfl, rfl, rfl, hk, hd⟩ := hrel
    by_cases hkn : k < 4
    · have hc := hB k (by omega)
      have hbd := at_bd t k
      have hac := acc_low (s := t) (p := 0) (k := k) (by omega) hd.out
      have hx := hexv_lt (at_ t k)
      have hlb := low_bd (at_ t k) hbd.1 hbd.2
      clear hB
      by_cases hv : hexv (at_ t k) < 0
      · have HR : Hid (decide (digs t 0 4) = false) := decide_eq_false (fun h => by have := h k hkn; rw [Nat.zero_add] at this; omega)
        have h1 := low_no _ hbd.1 hbd.2 hv
        have h2 := hexv_not hv
        clear hx hv hd
        generalize acc t 0 k = n at hac ⊢
        generalize at_ t k = c at *
        have e95 : (c == 95) = true ∨ (c == 95) = false := by cases (c == 95) <;> simp
        have h3 : low c < 97 ∨ (103 ≤ low c ∧ low c ≤ 122) ∨ 122 < low c := by omega
        clear h1
        rcases e95 with e95 | e95 <;> rcases h2 with h2 | h2 <;> rcases h3 with h3 | ⟨h3, h5⟩ | h3
        all_goals
          go_wp2_with ((refine (HL.out _ _).mono ?_); rintro e w' ⟨rfl, rfl⟩)
          go_ret2
          exact ⟨by rw [HR.out]; rfl, Hbel.out⟩
      · have Hd : Hid (digs t 0 (k + 1)) := fun j hj => by
          by_cases e : j = k
          · subst e; rw [Nat.zero_add]; omega
          · exact hd.out j (by omega)
        have Ha : Hid (acc t 0 (k + 1) = 16 * acc t 0 k + hexv (at_ t k)) := by
          show 16 * acc t 0 k + hexv (at_ t (0 + k)) = _
          rw [Nat.zero_add]
        clear hd
        by_cases hdg : 48 ≤ at_ t k ∧ at_ t k ≤ 57
        · rw [hexv_dig hdg] at Ha
          clear hx hv
          generalize acc t 0 k = n at hac Ha ⊢
          generalize at_ t k = c at *
          obtain ⟨hd0, hd1⟩ := hdg
          have e95 : (c == 95) = false := by rw [beq_eq_false_iff_ne]; omega
          go_wp2_with fail
          refine ⟨⟨k + 1, rfl, by rw [Ha.out]; congr 1; omega, by go_num, by omega, Hd⟩, by simp [intOf]; omega⟩
        · obtain ⟨hl0, hl1, hl2⟩ := low_yes _ hbd.1 hbd.2 (by omega) hdg
          rw [hl2] at Ha
          have hdg2 : at_ t k < 48 ∨ 57 < at_ t k := by omega
          have e95 : (at_ t k == 95) = false := by
            rw [beq_eq_false_iff_ne]
            intro e
            have : hexv (at_ t k) = -1 := by rw [e]; rfl
            omega
          clear hx hv hdg hl2
          generalize acc t 0 k = n at hac Ha ⊢
          generalize at_ t k = c at *
          rcases hdg2 with hdg2 | hdg2
          all_goals
            go_wp2_with ((refine (HL.out _ _).mono ?_); rintro e w' ⟨rfl, rfl⟩)
            refine ⟨⟨k + 1, rfl, by rw [Ha.out]; congr 1; omega, by go_num, by omega, Hd⟩, by simp [intOf]; omega⟩
    · obtain rfl : k = 4 := by omega
      have HR : Hid (decide (digs t 0 4) = true) := decide_eq_true hd.out
      clear hd hB
      generalize hn : acc t 0 4 = n
      have Hn := Lib.hid hn
      clear hn
      go_wp2_with fail
      go_ret2
      exact ⟨by rw [HR.out, Hn.out]; rfl, Hbel.out⟩

/-- The public one: the number and no error, or some error. -/
theorem parse_yes (t : ByteArray) (h4 : t.size = 4) (hd : digs t 0 4) (w : World) :
    Calls Tryd.prog 137 #[.string t, .int .i64 16, .int .i64 16] w fun e w' => e = .returned (.tuple #[.int .u64 (acc t 0 4), .nilIface]) ∧ Below w.heap.size w w' := by
  have HP := Lib.hid (parse_int t h4 w)
  rw [decide_eq_true hd] at HP
  go_enter Tryd.func137, Tryd.ntmps137
  go_wp2_with fail
  refine HP.out.mono ?_
  rintro e w1 ⟨rfl, hb⟩
  clear HP
  unfold endU
  rw [if_pos rfl]
  go_wp2_with fail
  go_ret2
  exact ⟨rfl, hb⟩
theorem parse_no (t : ByteArray) (h4 : t.size = 4) (hd : ¬ digs t 0 4) (w : World) (tp : TypeId) (p : Value) (hvar : w.var? Tryd.prog "strconv.ErrSyntax" = some #[.iface tp p]) :
    Calls Tryd.prog 137 #[.string t, .int .i64 16, .int .i64 16] w fun e w' => (∃ N, e = .returned (.tuple #[.int .u64 0, .iface 130 (.pointer (some ⟨N, 0, none⟩))])) ∧ Below w.heap.size w w' := by
  have HP := Lib.hid (parse_int t h4 w)
  rw [decide_eq_false hd] at HP
  have HE := Lib.hid (fun w1 (hb : Below w.heap.size w w1) => Tryd.strconv_toError_syntax ⟨#[80, 97, 114, 115, 101, 85, 105, 110, 116]⟩ t 16 16 (.iface tp p) w1 (by omega) ((World.var?_cell (show Tryd.prog.globalNamed "strconv.ErrSyntax" = some 3 by kernel_rfl) (var_below hvar hb) 0).trans rfl) (Or.inr ⟨tp, p, rfl⟩))
  clear hvar
  go_enter Tryd.func137, Tryd.ntmps137
  go_wp2_with fail
  refine HP.out.mono ?_
  rintro e w1 ⟨rfl, hb⟩
  clear HP
  unfold endU
  rw [if_neg (by decide)]
  go_wp2_with fail
  refine (HE.out _ hb).mono ?_
  rintro e w2 ⟨N, rfl, h1, h2, hb2⟩
  clear HE h1 h2
  go_wp2_with fail
  go_ret2
  exact ⟨⟨N, rfl⟩, hb.trans (hb2.mono hb.size)⟩
end Go.Proofs.YtnaeanhcmpmojaaDoor.readq
