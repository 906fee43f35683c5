/- Merged: HexParse ReadQI ReadQfI. -/
import Derived.Test.YtegpcjkcejijpaaGreatDoorGLine
import Derived.Test.YtegpcjkcejijpaaGreatDoorGArith
import Derived.Test.YtegpcjkcejijpaaGreatDoorShelf
import Derived.Lib.ConvBytes
import Derived.Lib.Strings
import Derived.Lib.Walk
import Derived.Lib.Hide
import Derived.Laws.Closers25
import Derived.Laws.Closers25b
import Derived.BigCall
import Derived.BigGuard
import Derived.Test.YtegpcjkcejijpaaGreatDoorGRnI
import Derived.Test.YtegpcjkcejijpaaGreatDoorGRn
import Derived.Lib.AppendStr
namespace Go.Proofs.YtegpcjkcejijpaaGreatDoor.readq
open Go.ChangeShapes Go.WideShapes Go.ChangeAt Go.RowKit
set_option linter.unusedVariables false

/-- A byte, its case taken away. -/
def low (x : Int) : Int := bits .or .u8 x 32
theorem low_all : ∀ n : Fin 256, ((0 ≤ hexv (n.val : Int) ∧ ¬ (48 ≤ (n.val : Int) ∧ (n.val : Int) ≤ 57) → 97 ≤ low n.val ∧ low n.val ≤ 102 ∧ hexv n.val = low n.val - 87) ∧ (hexv (n.val : Int) < 0 → low n.val < 97 ∨ 102 < low n.val)) ∧ 0 ≤ low n.val ∧ low n.val < 256 := by decide +kernel
theorem low_bd (x : Int) (h0 : 0 ≤ x) (h1 : x < 256) : 0 ≤ low x ∧ low x < 256 := by
  have h := low_all ⟨x.toNat, by omega⟩
  have e : ((x.toNat : Nat) : Int) = x := by omega
  simp only [e] at h
  exact h.2
theorem low_yes (x : Int) (h0 : 0 ≤ x) (h1 : x < 256) (h : 0 ≤ hexv x) (h2 : ¬ (48 ≤ x ∧ x ≤ 57)) : 97 ≤ low x ∧ low x ≤ 102 ∧ hexv x = low x - 87 := by
  have h' := low_all ⟨x.toNat, by omega⟩
  have e : ((x.toNat : Nat) : Int) = x := by omega
  simp only [e] at h'
  exact h'.1.1 ⟨h, h2⟩
theorem low_no (x : Int) (h0 : 0 ≤ x) (h1 : x < 256) (h : hexv x < 0) : low x < 97 ∨ 102 < low x := by
  have h' := low_all ⟨x.toNat, by omega⟩
  have e : ((x.toNat : Nat) : Int) = x := by omega
  simp only [e] at h'
  exact h'.1.2 h
theorem hexv_dig {x : Int} (h : 48 ≤ x ∧ x ≤ 57) : hexv x = x - 48 := by unfold hexv; rw [if_pos h]
theorem hexv_not {x : Int} (h : hexv x < 0) : x < 48 ∨ 57 < x := by
  by_cases h2 : 48 ≤ x ∧ x ≤ 57
  · rw [hexv_dig h2] at h; omega
  · omega
theorem lower_any (x : Int) (w : World) : Calls Tryz.prog 214 #[.int .u8 x] w fun e w' => e = .returned (.int .u8 (low x)) ∧ w = w' := by
  refine (Tryz.internal_strconv_lower x w).mono ?_
  rintro e w' ⟨rfl, rfl⟩
  exact ⟨rfl, rfl⟩
theorem acc_low {s : ByteArray} {p k : Nat} (hk : k ≤ 3) (h : digs s p k) : 0 ≤ acc s p k ∧ acc s p k ≤ 4095 := by
  have h1 := acc_bd s p k h
  have h2 : (16 : Int) ^ k ≤ 16 ^ 3 := by
    match k, hk with
    | 0, _ => decide
    | 1, _ => decide
    | 2, _ => decide
    | 3, _ => decide
  have e : (16 : Int) ^ 3 = 4096 := by decide
  omega
/-- How it ends. -/
def endU (b : Bool) (n : Int) : Value := if b = true then .tuple #[.int .u64 n, .nilIface] else .tuple #[.int .u64 0, .iface 182 (.int .i64 2)]

set_option maxHeartbeats 32000000 in
set_option maxRecDepth 100000 in
theorem parse_int (t : ByteArray) (h4 : t.size = 4) (w : World) :
    Calls Tryz.prog 206 #[.string t, .int .i64 16, .int .i64 16] w fun e w' => e = .returned (endU (decide (digs t 0 4)) (acc t 0 4)) ∧ Below w.heap.size w w' := by
  have hcv := Lib.run_convert_string_bytes (P := Tryz.prog) w 9 22 5 t (u := .string) Tryz.underlying9 Tryz.underlying22 Tryz.underlying5
  have hB : ∀ j, j < t.size → (Lib.bytesWorld w 5 t).cell? ⟨w.heap.size, j, none⟩ = some (.int .u8 (at_ t j)) := fun j hj => Lib.bytesWorld_cell w 5 t j hj
  have Hbel := Lib.hid (Lib.bytesWorld_below w 5 t)
  obtain ⟨W1, hW1⟩ : ∃ W1, W1 = Lib.bytesWorld w 5 t := ⟨_, rfl⟩
  rw [← hW1] at hcv hB Hbel
  clear hW1
  have hemp := empty_no (f := t) (by omega)
  have hmv : IntKind.u64.wrap (IntKind.u64.wrap 65536 - 1) = 65535 := by
    rw [IntKind.wrap_u64, IntKind.wrap_u64]
    decide
  have HL := Lib.hid lower_any
  rw [h4] at hcv
  go_enter Tryz.func206, Tryz.ntmps206
  go_wp2_with fail
  go_loop [12, 13, 101] (fun vu vn vi => ∃ (k : Nat), vu = .bool false ∧ vn = .int .u64 (acc t 0 k) ∧ vi = .int .i64 k ∧ k ≤ 4 ∧ Hid (digs t 0 k)) (fun _ _ vi => 4 - (intOf vi).toNat)
  case atStart => exact ⟨0, rfl, rfl, rfl, by omega, fun j hj => by omega⟩
  case round =>
    obtain ⟨k, rfl, rfl, rfl, hk, hd⟩ := hrel
    by_cases hkn : k < 4
    · have hc := hB k (by omega)
      have hbd := at_bd t k
      have hac := acc_low (s := t) (p := 0) (k := k) (by omega) hd.out
      have hx := hexv_lt (at_ t k)
      have hlb := low_bd (at_ t k) hbd.1 hbd.2
      clear hB
      by_cases hv : hexv (at_ t k) < 0
      · have HR : Hid (decide (digs t 0 4) = false) := decide_eq_false (fun h => by have := h k hkn; rw [Nat.zero_add] at this; omega)
        have h1 := low_no _ hbd.1 hbd.2 hv
        have h2 := hexv_not hv
        clear hx hv hd
        generalize acc t 0 k = n at hac ⊢
        generalize at_ t k = c at *
        have e95 : (c == 95) = true ∨ (c == 95) = false := by cases (c == 95) <;> simp
        have h3 : low c < 97 ∨ (103 ≤ low c ∧ low c ≤ 122) ∨ 122 < low c := by omega
        clear h1
        rcases e95 with e95 | e95 <;> rcases h2 with h2 | h2 <;> rcases h3 with h3 | ⟨h3, h5⟩ | h3
        all_goals
          go_wp2_with ((refine (HL.out _ _).mono ?_); rintro e w' ⟨rfl, rfl⟩)
          go_ret2
          exact ⟨by rw [HR.out]; rfl, Hbel.out⟩
      · have Hd : Hid (digs t 0 (k + 1)) := fun j hj => by
          by_cases e : j = k
          · subst e; rw [Nat.zero_add]; omega
          · exact hd.out j (by omega)
        have Ha : Hid (acc t 0 (k + 1) = 16 * acc t 0 k + hexv (at_ t k)) := by
          show 16 * acc t 0 k + hexv (at_ t (0 + k)) = _
          rw [Nat.zero_add]
        clear hd
        by_cases hdg : 48 ≤ at_ t k ∧ at_ t k ≤ 57
        · rw [hexv_dig hdg] at Ha
          clear hx hv
          generalize acc t 0 k = n at hac Ha ⊢
          generalize at_ t k = c at *
          obtain ⟨hd0, hd1⟩ := hdg
          have e95 : (c == 95) = false := by rw [beq_eq_false_iff_ne]; omega
          go_wp2_with fail
          refine ⟨⟨k + 1, rfl, by rw [Ha.out]; congr 1; omega, by go_num, by omega, Hd⟩, by simp [intOf]; omega⟩
        · obtain ⟨hl0, hl1, hl2⟩ := low_yes _ hbd.1 hbd.2 (by omega) hdg
          rw [hl2] at Ha
          have hdg2 : at_ t k < 48 ∨ 57 < at_ t k := by omega
          have e95 : (at_ t k == 95) = false := by
            rw [beq_eq_false_iff_ne]
            intro e
            have : hexv (at_ t k) = -1 := by rw [e]; rfl
            omega
          clear hx hv hdg hl2
          generalize acc t 0 k = n at hac Ha ⊢
          generalize at_ t k = c at *
          rcases hdg2 with hdg2 | hdg2
          all_goals
            go_wp2_with ((refine (HL.out _ _).mono ?_); rintro e w' ⟨rfl, rfl⟩)
            refine ⟨⟨k + 1, rfl, by rw [Ha.out]; congr 1; omega, by go_num, by omega, Hd⟩, by simp [intOf]; omega⟩
    · obtain rfl : k = 4 := by omega
      have HR : Hid (decide (digs t 0 4) = true) := decide_eq_true hd.out
      clear hd hB
      generalize hn : acc t 0 4 = n
      have Hn := Lib.hid hn
      clear hn
      go_wp2_with fail
      go_ret2
      exact ⟨by rw [HR.out, Hn.out]; rfl, Hbel.out⟩

/-- The public one: the number and no error, or some error. -/
theorem parse_yes (t : ByteArray) (h4 : t.size = 4) (hd : digs t 0 4) (w : World) :
    Calls Tryz.prog 196 #[.string t, .int .i64 16, .int .i64 16] w fun e w' => e = .returned (.tuple #[.int .u64 (acc t 0 4), .nilIface]) ∧ Below w.heap.size w w' := by
  have HP := Lib.hid (parse_int t h4 w)
  rw [decide_eq_true hd] at HP
  go_enter Tryz.func196, Tryz.ntmps196
  go_wp2_with fail
  refine HP.out.mono ?_
  rintro e w1 ⟨rfl, hb⟩
  clear HP
  unfold endU
  rw [if_pos rfl]
  go_wp2_with fail
  go_ret2
  exact ⟨rfl, hb⟩
theorem parse_no (t : ByteArray) (h4 : t.size = 4) (hd : ¬ digs t 0 4) (w : World) (tp : TypeId) (p : Value) (hvar : w.var? Tryz.prog "strconv.ErrSyntax" = some #[.iface tp p]) :
    Calls Tryz.prog 196 #[.string t, .int .i64 16, .int .i64 16] w fun e w' => (∃ N, e = .returned (.tuple #[.int .u64 0, .iface 185 (.pointer (some ⟨N, 0, none⟩))])) ∧ Below w.heap.size w w' := by
  have HP := Lib.hid (parse_int t h4 w)
  rw [decide_eq_false hd] at HP
  have HE := Lib.hid (fun w1 (hb : Below w.heap.size w w1) => Tryz.strconv_toError_syntax ⟨#[80, 97, 114, 115, 101, 85, 105, 110, 116]⟩ t 16 16 (.iface tp p) w1 (by omega) ((World.var?_cell (show Tryz.prog.globalNamed "strconv.ErrSyntax" = some 4 by kernel_rfl) (var_below hvar hb) 0).trans rfl) (Or.inr ⟨tp, p, rfl⟩))
  clear hvar
  go_enter Tryz.func196, Tryz.ntmps196
  go_wp2_with fail
  refine HP.out.mono ?_
  rintro e w1 ⟨rfl, hb⟩
  clear HP
  unfold endU
  rw [if_neg (by decide)]
  go_wp2_with fail
  refine (HE.out _ hb).mono ?_
  rintro e w2 ⟨N, rfl, h1, h2, hb2⟩
  clear HE h1 h2
  go_wp2_with fail
  go_ret2
  exact ⟨⟨N, rfl⟩, hb.trans (hb2.mono hb.size)⟩
end Go.Proofs.YtegpcjkcejijpaaGreatDoor.readq
namespace Go.Proofs.YtegpcjkcejijpaaGreatDoor.readq
open Go.ChangeShapes Go.WideShapes Go.ChangeAt Go.RowKit
set_option linter.unusedVariables false

def ErrVar (w : World) (n : String) : Prop := ∃ a : Addr, w.var? Tryz.prog n = some #[.iface 197 (.pointer (some a))]
theorem ErrVar.below {w w' : World} {n : String} (h : ErrVar w n) (hb : Below w.heap.size w w') : ErrVar w' n := by
  obtain ⟨a, h⟩ := h
  exact ⟨a, var_below h hb⟩

theorem drop_list (s : ByteArray) (p : Nat) : (s.extract p s.size).data.toList = s.data.toList.drop p := by
  rw [ByteArray.data_extract, Array.toList_extract, List.extract_eq_take_drop]
  apply List.take_of_length_le
  simp
theorem at_get (s : ByteArray) (p : Nat) (h : p < s.data.toList.length) : ((s.data.toList[p]).toNat : Int) = at_ s p := by
  unfold at_
  rw [List.getD_eq_getElem?_getD, List.getElem?_eq_getElem h, Option.getD_some]
theorem drop_cons (s : ByteArray) (p : Nat) (h : p < s.size) : ∃ x, s.data.toList.drop p = x :: s.data.toList.drop (p + 1) ∧ (x.toNat : Int) = at_ s p := by
  have h2 : p < s.data.toList.length := by simpa using h
  exact ⟨s.data.toList[p], List.drop_eq_getElem_cons h2, at_get s p h2⟩
theorem byte_iff (b x : UInt8) (z : Int) (h : (x.toNat : Int) = z) : (b = x) ↔ z = (b.toNat : Int) := by
  constructor
  · intro e; rw [e, h]
  · intro e; exact UInt8.toNat.inj (by omega)
theorem pre1_eq (s : ByteArray) (p : Nat) (b : UInt8) : Lib.hasPrefix (s.extract p s.size).data.toList [b] = decide (p < s.size ∧ at_ s p = (b.toNat : Int)) := by
  rw [drop_list]
  have e : s.data.toList.length = s.size := by simp
  by_cases h : p < s.size
  · obtain ⟨x, hd, hx⟩ := drop_cons s p h
    rw [hd]
    have hb := byte_iff b x _ hx
    by_cases c : b = x
    · rw [decide_eq_true ⟨h, hb.1 c⟩]
      simp [Lib.hasPrefix, List.isPrefixOf, c]
    · rw [decide_eq_false (fun ⟨_, hc⟩ => c (hb.2 hc))]
      simp [Lib.hasPrefix, List.isPrefixOf, c]
  · rw [List.drop_eq_nil_of_le (by omega), decide_eq_false (fun hc => h hc.1)]
    rfl
theorem pre2_eq (s : ByteArray) (p : Nat) (b c : UInt8) : Lib.hasPrefix (s.extract p s.size).data.toList [b, c] = decide (p + 1 < s.size ∧ at_ s p = (b.toNat : Int) ∧ at_ s (p + 1) = (c.toNat : Int)) := by
  rw [drop_list]
  have e : s.data.toList.length = s.size := by simp
  by_cases h : p < s.size
  · obtain ⟨x, hd, hx⟩ := drop_cons s p h
    rw [hd]
    have hb := byte_iff b x _ hx
    by_cases h1 : p + 1 < s.size
    · obtain ⟨y, hd2, hy⟩ := drop_cons s (p + 1) h1
      rw [hd2]
      have hc := byte_iff c y _ hy
      by_cases cb : b = x
      · by_cases cc : c = y
        · rw [decide_eq_true ⟨h1, hb.1 cb, hc.1 cc⟩]
          simp [Lib.hasPrefix, List.isPrefixOf, cb, cc]
        · rw [decide_eq_false (fun ⟨_, _, hd⟩ => cc (hc.2 hd))]
          simp [Lib.hasPrefix, List.isPrefixOf, cb, cc]
      · rw [decide_eq_false (fun ⟨_, hd, _⟩ => cb (hb.2 hd))]
        simp [Lib.hasPrefix, List.isPrefixOf, cb]
    · rw [List.drop_eq_nil_of_le (by omega), decide_eq_false (fun hd => h1 hd.1)]
      simp [Lib.hasPrefix, List.isPrefixOf]
  · rw [List.drop_eq_nil_of_le (by omega), decide_eq_false (fun hc => h (by omega))]
    rfl
theorem pre1 (s : ByteArray) (p : Nat) (b : UInt8) (w : World) :
    Calls Tryz.prog 50 #[.string (s.extract p s.size), .string ⟨#[b]⟩] w fun e w' => e = .returned (.bool (decide (p < s.size ∧ at_ s p = (b.toNat : Int)))) ∧ w = w' := by
  refine (Tryz.strings_HasPrefix _ _ w).mono ?_
  rintro e w' ⟨rfl, rfl⟩
  refine ⟨?_, rfl⟩
  rw [← pre1_eq]
theorem pre2 (s : ByteArray) (p : Nat) (b c : UInt8) (w : World) :
    Calls Tryz.prog 50 #[.string (s.extract p s.size), .string ⟨#[b, c]⟩] w fun e w' => e = .returned (.bool (decide (p + 1 < s.size ∧ at_ s p = (b.toNat : Int) ∧ at_ s (p + 1) = (c.toNat : Int)))) ∧ w = w' := by
  refine (Tryz.strings_HasPrefix _ _ w).mono ?_
  rintro e w' ⟨rfl, rfl⟩
  refine ⟨?_, rfl⟩
  rw [← pre2_eq]

/-! unicodeNumber. -/
theorem part_size (s : ByteArray) (p n : Nat) (h : p + n ≤ s.size) : (s.extract p (p + n)).size = n := by rw [ByteArray.size_extract]; omega
theorem part_at (s : ByteArray) (p n j : Nat) (h : j < n) : at_ (s.extract p (p + n)) j = at_ s (p + j) := by
  unfold at_
  rw [ByteArray.data_extract, Array.toList_extract, List.extract_eq_take_drop, Nat.add_sub_cancel_left, List.getD_eq_getElem?_getD, List.getElem?_take_of_lt h, List.getElem?_drop, List.getD_eq_getElem?_getD]
theorem part_acc (s : ByteArray) (p n : Nat) : ∀ k, k ≤ n → acc (s.extract p (p + n)) 0 k = acc s p k
  | 0, _ => rfl
  | k + 1, h => by
    have ih := part_acc s p n k (by omega)
    show 16 * acc _ 0 k + hexv (at_ _ (0 + k)) = 16 * acc s p k + hexv (at_ s (p + k))
    rw [ih, Nat.zero_add, part_at s p n k (by omega)]
theorem part_digs (s : ByteArray) (p n k : Nat) (h : k ≤ n) : digs (s.extract p (p + n)) 0 k ↔ digs s p k := by
  unfold digs
  constructor
  · intro hd j hj
    have := hd j hj
    rw [Nat.zero_add, part_at s p n j (by omega)] at this
    exact this
  · intro hd j hj
    rw [Nat.zero_add, part_at s p n j (by omega)]
    exact hd j hj
theorem two_eq {s : ByteArray} {p : Nat} (h : p + 2 ≤ s.size) : s.extract p (p + 2) = ⟨#[92, 117]⟩ ↔ at_ s p = 92 ∧ at_ s (p + 1) = 117 := by
  have e : s.data.toList.length = s.size := by simp
  have h2 := at_get s p (by omega)
  have h3 := at_get s (p + 1) (by omega)
  have hl : (s.extract p (p + 2)).data.toList = [s.data.toList[p]'(by omega), s.data.toList[p + 1]'(by omega)] := by
    rw [ByteArray.data_extract, Array.toList_extract, List.extract_eq_take_drop, Nat.add_sub_cancel_left, List.drop_eq_getElem_cons (by omega), List.drop_eq_getElem_cons (by omega)]
    rfl
  constructor
  · intro hx
    rw [hx] at hl
    have hl2 : ([92, 117] : List UInt8) = [s.data.toList[p]'(by omega), s.data.toList[p + 1]'(by omega)] := hl
    injection hl2 with a1 a2
    injection a2 with a2 _
    rw [← h2, ← h3, ← a1, ← a2]
    exact ⟨rfl, rfl⟩
  · rintro ⟨a1, a2⟩
    apply ByteArray.ext
    apply Array.ext'
    rw [hl]
    have b1 : s.data.toList[p]'(by omega) = 92 := UInt8.toNat.inj (by have : (92 : UInt8).toNat = 92 := rfl; omega)
    have b2 : s.data.toList[p + 1]'(by omega) = 117 := UInt8.toNat.inj (by have : (117 : UInt8).toNat = 117 := rfl; omega)
    rw [b1, b2]
def numF (s : ByteArray) (p : Nat) : Int × Int := if at_ s p = 92 ∧ at_ s (p + 1) = 117 ∧ 0 ≤ four s (p + 2) then (four s (p + 2), ((p + 6 : Nat) : Int)) else (0, -1)
set_option maxHeartbeats 4000000 in
set_option maxRecDepth 100000 in
theorem num_far (s : ByteArray) (p : Nat) (w : World) (hs : s.size ≤ 1048576) (hp : p ≤ s.size) (h : s.size < p + 6) :
    Calls Tryz.prog 187 #[.string s, .int .i64 p] w fun e w' => e = .returned (.tuple #[.int .i64 (numF s p).1, .int .i64 (numF s p).2]) ∧ Below w.heap.size w w' := by
  have e : numF s p = (0, -1) := if_neg (fun hc => by have := four_room hc.2.2; omega)
  rw [e]
  go_enter Tryz.func187, Tryz.ntmps187
  go_wp2_with fail
  go_ret2
  exact ⟨rfl, Below.refl _ _⟩
set_option maxHeartbeats 4000000 in
set_option maxRecDepth 100000 in
theorem num_else (s : ByteArray) (p : Nat) (w : World) (hs : s.size ≤ 1048576) (hp : p ≤ s.size) (h : p + 6 ≤ s.size) (h2 : ¬ (at_ s p = 92 ∧ at_ s (p + 1) = 117)) :
    Calls Tryz.prog 187 #[.string s, .int .i64 p] w fun e w' => e = .returned (.tuple #[.int .i64 (numF s p).1, .int .i64 (numF s p).2]) ∧ Below w.heap.size w w' := by
  have e : numF s p = (0, -1) := if_neg (fun hc => h2 ⟨hc.1, hc.2.1⟩)
  rw [e]
  obtain ⟨m, hm⟩ : ∃ m : Nat, m = p + 2 := ⟨_, rfl⟩
  obtain ⟨q, hq⟩ : ∃ q : Nat, q = m + 4 := ⟨_, rfl⟩
  have ec : (p : Int) + 2 = (m : Int) := by omega
  have ec4 : (m : Int) + 4 = (q : Int) := by omega
  have hpm : p ≤ m := by omega
  have hms : m ≤ s.size := by omega
  have hmq : m ≤ q := by omega
  have hqs : q ≤ s.size := by omega
  have hwm : IntKind.i64.wrap (m : Int) = (m : Int) := IntWalk.i64_in _ (by omega)
  have hwq : IntKind.i64.wrap (q : Int) = (q : Int) := IntWalk.i64_in _ (by omega)
  have hne : (s.extract p m) ≠ ⟨#[92, 117]⟩ := fun hc => h2 ((two_eq (by omega)).1 (hm ▸ hc))
  have hx : ((s.extract p m).toList == [92, 117]) = false := by
    rw [beq_eq_false_iff_ne, ByteArray.toList_eq]
    intro hc
    exact hne (ByteArray.ext (Array.ext' hc))
  clear e hne h2 hm hq
  go_enter Tryz.func187, Tryz.ntmps187
  go_wp2_with fail
  all_goals go_ret2
  all_goals exact ⟨rfl, Below.refl _ _⟩
set_option maxHeartbeats 4000000 in
set_option maxRecDepth 100000 in
theorem num_no (s : ByteArray) (p : Nat) (w : World) (hs : s.size ≤ 1048576) (hp : p ≤ s.size) (h : p + 6 ≤ s.size) (h2 : at_ s p = 92 ∧ at_ s (p + 1) = 117) (h3 : four s (p + 2) < 0) (hE : ErrVar w "strconv.ErrSyntax") :
    Calls Tryz.prog 187 #[.string s, .int .i64 p] w fun e w' => e = .returned (.tuple #[.int .i64 (numF s p).1, .int .i64 (numF s p).2]) ∧ Below w.heap.size w w' := by
  have e : numF s p = (0, -1) := if_neg (fun hc => by have := hc.2.2; omega)
  rw [e]
  obtain ⟨m, hm⟩ : ∃ m : Nat, m = p + 2 := ⟨_, rfl⟩
  obtain ⟨q, hq⟩ : ∃ q : Nat, q = m + 4 := ⟨_, rfl⟩
  have ec : (p : Int) + 2 = (m : Int) := by omega
  have ec4 : (m : Int) + 4 = (q : Int) := by omega
  have hpm : p ≤ m := by omega
  have hms : m ≤ s.size := by omega
  have hmq : m ≤ q := by omega
  have hqs : q ≤ s.size := by omega
  have hwm : IntKind.i64.wrap (m : Int) = (m : Int) := IntWalk.i64_in _ (by omega)
  have hwq : IntKind.i64.wrap (q : Int) = (q : Int) := IntWalk.i64_in _ (by omega)
  have hx : ((s.extract p m).toList == [92, 117]) = true := by
    rw [hm, (two_eq (by omega)).2 h2, ByteArray.toList_eq]
    rfl
  obtain ⟨a, hE⟩ := hE
  rw [← hm] at h3
  have hd : ¬ digs s m 4 := fun hd => by have := four_yes (s := s) (p := m) (by omega) hd; omega
  have hz := part_size s m 4 (by omega)
  have HP := Lib.hid (parse_no (s.extract m (m + 4)) hz (fun hc => hd ((part_digs s m 4 4 (by omega)).1 hc)) w _ _ hE)
  rw [← hq] at HP
  clear e h3 hd hE h2 hz hm hq
  go_enter Tryz.func187, Tryz.ntmps187
  go_wp2_with fail
  refine HP.out.mono ?_
  rintro e w1 ⟨⟨N, rfl⟩, hb⟩
  clear HP
  go_wp2_with fail
  go_ret2
  exact ⟨rfl, hb⟩
set_option maxHeartbeats 4000000 in
set_option maxRecDepth 100000 in
theorem num_yes (s : ByteArray) (p : Nat) (w : World) (hs : s.size ≤ 1048576) (hp : p ≤ s.size) (h : p + 6 ≤ s.size) (h2 : at_ s p = 92 ∧ at_ s (p + 1) = 117) (h3 : 0 ≤ four s (p + 2)) :
    Calls Tryz.prog 187 #[.string s, .int .i64 p] w fun e w' => e = .returned (.tuple #[.int .i64 (numF s p).1, .int .i64 (numF s p).2]) ∧ Below w.heap.size w w' := by
  obtain ⟨m, hm⟩ : ∃ m : Nat, m = p + 2 := ⟨_, rfl⟩
  obtain ⟨q, hq⟩ : ∃ q : Nat, q = m + 4 := ⟨_, rfl⟩
  have ec : (p : Int) + 2 = (m : Int) := by omega
  have ec4 : (m : Int) + 4 = (q : Int) := by omega
  have hpm : p ≤ m := by omega
  have hms : m ≤ s.size := by omega
  have hmq : m ≤ q := by omega
  have hqs : q ≤ s.size := by omega
  have hwm : IntKind.i64.wrap (m : Int) = (m : Int) := IntWalk.i64_in _ (by omega)
  have hwq : IntKind.i64.wrap (q : Int) = (q : Int) := IntWalk.i64_in _ (by omega)
  have e : numF s p = (four s m, (q : Int)) := by
    subst hq hm
    exact if_pos ⟨h2.1, h2.2, h3⟩
  rw [e]
  have hx : ((s.extract p m).toList == [92, 117]) = true := by
    rw [hm, (two_eq (by omega)).2 h2, ByteArray.toList_eq]
    rfl
  rw [← hm] at h3
  have hd : digs s m 4 := by
    by_cases hd : digs s m 4
    · exact hd
    · rw [four_no (fun hc => hd hc.2)] at h3; omega
  have hfy := four_yes (s := s) (p := m) (by omega) hd
  have hz := part_size s m 4 (by omega)
  have HP := Lib.hid (parse_yes (s.extract m (m + 4)) hz ((part_digs s m 4 4 (by omega)).2 hd) w)
  rw [part_acc s m 4 4 (by omega), ← hfy.1, ← hq] at HP
  have hb := four_bd s m
  generalize four s m = n at *
  clear e hd h2 hz hfy hm hq
  go_enter Tryz.func187, Tryz.ntmps187
  go_wp2_with fail
  refine HP.out.mono ?_
  rintro e w1 ⟨rfl, hb⟩
  clear HP
  go_wp2_with fail
  go_ret2
  exact ⟨rfl, hb⟩
theorem num_any (s : ByteArray) (p : Nat) (w : World) (hs : s.size ≤ 1048576) (hp : p ≤ s.size) (hE : ErrVar w "strconv.ErrSyntax") :
    Calls Tryz.prog 187 #[.string s, .int .i64 p] w fun e w' => e = .returned (.tuple #[.int .i64 (numF s p).1, .int .i64 (numF s p).2]) ∧ Below w.heap.size w w' := by
  by_cases h : p + 6 ≤ s.size
  · by_cases h2 : at_ s p = 92 ∧ at_ s (p + 1) = 117
    · by_cases h3 : 0 ≤ four s (p + 2)
      · exact num_yes s p w hs hp h h2 h3
      · exact num_no s p w hs hp h h2 (by omega) hE
    · exact num_else s p w hs hp h h2
  · exact num_far s p w hs hp (by omega)
theorem num_anyI (s : ByteArray) (a : Int) (p : Nat) (ha : a = (p : Int)) (w : World) (hs : s.size ≤ 1048576) (hp : p ≤ s.size) (hE : ErrVar w "strconv.ErrSyntax") :
    Calls Tryz.prog 187 #[.string s, .int .i64 a] w fun e w' => e = .returned (.tuple #[.int .i64 (numF s p).1, .int .i64 (numF s p).2]) ∧ Below w.heap.size w w' := by
  subst ha
  exact num_any s p w hs hp hE

/-! isSecondHalf, unicodeRune. -/
theorem second_any (n : Int) (w : World) (h0 : 0 ≤ n) (h1 : n ≤ 65535) :
    Calls Tryz.prog 188 #[.int .i64 n] w fun e w' => e = .returned (.bool (decide (56320 ≤ n ∧ n ≤ 57343))) ∧ w = w' := by
  have HH := Lib.hid (fun w => rune.impl_half n w)
  by_cases a : 55296 ≤ n
  · by_cases b : n ≤ 57343
    · rw [decide_eq_true a, decide_eq_true b] at HH
      by_cases c : 56320 ≤ n
      · rw [decide_eq_true ⟨c, b⟩]
        go_enter Tryz.func188, Tryz.ntmps188
        go_wp2_with fail
        refine (HH.out _).mono ?_
        rintro e w1 ⟨rfl, rfl⟩
        go_wp2_with fail
        go_ret
        exact ⟨rfl, rfl⟩
      · rw [decide_eq_false (fun hc => c hc.1)]
        have ec := decide_eq_false c
        go_enter Tryz.func188, Tryz.ntmps188
        go_wp2_with fail
        refine (HH.out _).mono ?_
        rintro e w1 ⟨rfl, rfl⟩
        go_wp2_with fail
        go_ret
        exact ⟨rfl, rfl⟩
    · rw [decide_eq_true a, decide_eq_false b] at HH
      rw [decide_eq_false (fun hc => b hc.2)]
      go_enter Tryz.func188, Tryz.ntmps188
      go_wp2_with fail
      refine (HH.out _).mono ?_
      rintro e w1 ⟨rfl, rfl⟩
      go_wp2_with fail
      go_ret
      exact ⟨rfl, rfl⟩
  · rw [decide_eq_false a] at HH
    rw [decide_eq_false (by omega)]
    go_enter Tryz.func188, Tryz.ntmps188
    go_wp2_with fail
    refine (HH.out _).mono ?_
    rintro e w1 ⟨rfl, rfl⟩
    go_wp2_with fail
    go_ret
    exact ⟨rfl, rfl⟩
set_option maxHeartbeats 4000000 in
set_option maxRecDepth 100000 in
theorem uni_bad (s : ByteArray) (p : Nat) (w : World) (hs : s.size ≤ 1048576) (hp : p + 1 < s.size) (h1 : at_ s p = 92) (h2 : at_ s (p + 1) = 117) (hE : ErrVar w "strconv.ErrSyntax") (h3 : four s (p + 2) < 0) :
    Calls Tryz.prog 169 #[.string s, .int .i64 p] w fun e w' => e = .returned (.tuple #[.int .i64 (uF s (p + 1)).1, .int .i64 (uF s (p + 1)).2]) ∧ Below w.heap.size w w' := by
  have HN := Lib.hid (fun a ha w hE => num_anyI s a p ha w hs (by omega) hE)
  have H0 := Lib.hid hE
  have e : uF s (p + 1) = (0, -1) := by unfold uF; rw [if_pos h3]
  rw [e]
  have en : numF s p = (0, -1) := if_neg (fun hc => by have := hc.2.2; omega)
  rw [en] at HN
  clear e en hE
  go_enter Tryz.func169, Tryz.ntmps169
  go_wp2_with fail
  refine (HN.out _ (by rfl) _ H0.out).mono ?_
  rintro e w1 ⟨rfl, hb1⟩
  go_wp2_with fail
  go_ret2
  exact ⟨rfl, hb1⟩
set_option maxHeartbeats 4000000 in
set_option maxRecDepth 100000 in
theorem uni_one (s : ByteArray) (p : Nat) (w : World) (hs : s.size ≤ 1048576) (hp : p + 1 < s.size) (h1 : at_ s p = 92) (h2 : at_ s (p + 1) = 117) (hE : ErrVar w "strconv.ErrSyntax") (h3 : 0 ≤ four s (p + 2)) (h4 : ¬ (55296 ≤ four s (p + 2) ∧ four s (p + 2) ≤ 57343)) :
    Calls Tryz.prog 169 #[.string s, .int .i64 p] w fun e w' => e = .returned (.tuple #[.int .i64 (uF s (p + 1)).1, .int .i64 (uF s (p + 1)).2]) ∧ Below w.heap.size w w' := by
  have HN := Lib.hid (fun a ha w hE => num_anyI s a p ha w hs (by omega) hE)
  have H0 := Lib.hid hE
  have en : numF s p = (four s (p + 2), (p : Int) + 6) := if_pos ⟨h1, h2, by omega⟩
  rw [en] at HN
  have hb := four_bd s (p + 2)
  have hroom := four_room (s := s) (p := p + 2) (by omega)
  have e : uF s (p + 1) = (four s (p + 2), (p : Int) + 6) := by
    unfold uF
    rw [show p + 1 + 1 = p + 2 from rfl, if_neg (by omega), if_neg (by omega), if_pos (by omega)]
    rfl
  rw [e]
  have HR := Lib.hid (fun w => rune.impl_ok (four s (p + 2)) w)
  rw [(rune.okR_iff _).2 ⟨h3, by omega, h4⟩] at HR
  generalize four s (p + 2) = n at *
  clear e en hE h4
  go_enter Tryz.func169, Tryz.ntmps169
  go_wp2_with fail
  refine (HN.out _ (by rfl) _ H0.out).mono ?_
  rintro e w1 ⟨rfl, hb1⟩
  go_wp2_with fail
  refine (HR.out _).mono ?_
  rintro e w2 ⟨rfl, rfl⟩
  go_wp2_with fail
  go_ret2
  exact ⟨rfl, hb1⟩
set_option maxHeartbeats 4000000 in
set_option maxRecDepth 100000 in
theorem uni_low (s : ByteArray) (p : Nat) (w : World) (hs : s.size ≤ 1048576) (hp : p + 1 < s.size) (h1 : at_ s p = 92) (h2 : at_ s (p + 1) = 117) (hE : ErrVar w "strconv.ErrSyntax") (h3 : 56320 ≤ four s (p + 2)) (h4 : four s (p + 2) ≤ 57343) :
    Calls Tryz.prog 169 #[.string s, .int .i64 p] w fun e w' => e = .returned (.tuple #[.int .i64 (uF s (p + 1)).1, .int .i64 (uF s (p + 1)).2]) ∧ Below w.heap.size w w' := by
  have HN := Lib.hid (fun a ha w hE => num_anyI s a p ha w hs (by omega) hE)
  have H0 := Lib.hid hE
  have en : numF s p = (four s (p + 2), (p : Int) + 6) := if_pos ⟨h1, h2, by omega⟩
  rw [en] at HN
  have hb := four_bd s (p + 2)
  have hroom := four_room (s := s) (p := p + 2) (by omega)
  have e : uF s (p + 1) = (0, -1) := by
    unfold uF
    rw [show p + 1 + 1 = p + 2 from rfl, if_neg (by omega), if_pos ⟨h3, h4⟩]
  rw [e]
  have HR := Lib.hid (fun w => rune.impl_ok (four s (p + 2)) w)
  rw [rune.okR_no (by omega)] at HR
  have HM := Lib.hid (fun a ha w hE => num_anyI s a (p + 6) ha w hs (by omega) hE)
  have HS := Lib.hid (fun w => second_any (four s (p + 2)) w (by omega) (by omega))
  rw [decide_eq_true ⟨h3, h4⟩] at HS
  generalize four s (p + 2) = n at *
  generalize (numF s (p + 6)).1 = m1 at HM
  generalize (numF s (p + 6)).2 = m2 at HM
  clear e en hE
  go_enter Tryz.func169, Tryz.ntmps169
  go_wp2_with fail
  refine (HN.out _ (by rfl) _ H0.out).mono ?_
  rintro e w1 ⟨rfl, hb1⟩
  go_wp2_with fail
  refine (HR.out _).mono ?_
  rintro e w2 ⟨rfl, rfl⟩
  go_wp2_with fail
  refine (HM.out _ (by omega) _ (H0.out.below hb1)).mono ?_
  rintro e w2 ⟨rfl, hb2⟩
  have hb3 := hb1.trans (hb2.mono hb1.size)
  go_wp2_with fail
  refine (HS.out _).mono ?_
  rintro e w3 ⟨rfl, rfl⟩
  go_wp2_with fail
  go_ret2
  exact ⟨rfl, hb3⟩
set_option maxHeartbeats 4000000 in
set_option maxRecDepth 100000 in
theorem uni_half (s : ByteArray) (p : Nat) (w : World) (hs : s.size ≤ 1048576) (hp : p + 1 < s.size) (h1 : at_ s p = 92) (h2 : at_ s (p + 1) = 117) (hE : ErrVar w "strconv.ErrSyntax") (h3 : 55296 ≤ four s (p + 2)) (h4 : four s (p + 2) ≤ 56319) (h5 : ¬ (at_ s (p + 6) = 92 ∧ at_ s (p + 7) = 117 ∧ 56320 ≤ four s (p + 8) ∧ four s (p + 8) ≤ 57343)) :
    Calls Tryz.prog 169 #[.string s, .int .i64 p] w fun e w' => e = .returned (.tuple #[.int .i64 (uF s (p + 1)).1, .int .i64 (uF s (p + 1)).2]) ∧ Below w.heap.size w w' := by
  have HN := Lib.hid (fun a ha w hE => num_anyI s a p ha w hs (by omega) hE)
  have H0 := Lib.hid hE
  have en : numF s p = (four s (p + 2), (p : Int) + 6) := if_pos ⟨h1, h2, by omega⟩
  rw [en] at HN
  have hb := four_bd s (p + 2)
  have hroom := four_room (s := s) (p := p + 2) (by omega)
  have e : uF s (p + 1) = (0, -1) := by
    unfold uF
    rw [show p + 1 + 1 = p + 2 from rfl, if_neg (by omega), if_neg (by omega), if_neg (by omega), if_neg (fun hc => h5 hc.2)]
  rw [e]
  have HR := Lib.hid (fun w => rune.impl_ok (four s (p + 2)) w)
  rw [rune.okR_no (by omega)] at HR
  have HM := Lib.hid (fun a ha w hE => num_anyI s a (p + 6) ha w hs (by omega) hE)
  have HS := Lib.hid (fun w => second_any (four s (p + 2)) w (by omega) (by omega))
  rw [decide_eq_false (by omega)] at HS
  have hm : 0 ≤ (numF s (p + 6)).1 ∧ (numF s (p + 6)).1 ≤ 65535 ∧ ¬ (56320 ≤ (numF s (p + 6)).1 ∧ (numF s (p + 6)).1 ≤ 57343) := by
    unfold numF
    rw [show p + 6 + 1 = p + 7 from rfl, show p + 6 + 2 = p + 8 from rfl]
    split
    · rename_i hc
      have := four_bd s (p + 8)
      exact ⟨hc.2.2, this.2, fun hd => h5 ⟨hc.1, hc.2.1, hd⟩⟩
    · exact ⟨by decide, by decide, by decide⟩
  have HS2 := Lib.hid (fun w => second_any (numF s (p + 6)).1 w hm.1 hm.2.1)
  rw [decide_eq_false hm.2.2] at HS2
  generalize four s (p + 2) = n at *
  generalize (numF s (p + 6)).1 = m1 at HM HS2
  generalize (numF s (p + 6)).2 = m2 at HM
  clear e en hE h5 hm
  go_enter Tryz.func169, Tryz.ntmps169
  go_wp2_with fail
  refine (HN.out _ (by rfl) _ H0.out).mono ?_
  rintro e w1 ⟨rfl, hb1⟩
  go_wp2_with fail
  refine (HR.out _).mono ?_
  rintro e w2 ⟨rfl, rfl⟩
  go_wp2_with fail
  refine (HM.out _ (by omega) _ (H0.out.below hb1)).mono ?_
  rintro e w2 ⟨rfl, hb2⟩
  have hb3 := hb1.trans (hb2.mono hb1.size)
  go_wp2_with fail
  refine (HS.out _).mono ?_
  rintro e w3 ⟨rfl, rfl⟩
  go_wp2_with fail
  refine (HS2.out _).mono ?_
  rintro e w3 ⟨rfl, rfl⟩
  go_wp2_with fail
  go_ret2
  exact ⟨rfl, hb3⟩
set_option maxHeartbeats 4000000 in
set_option maxRecDepth 100000 in
theorem uni_two (s : ByteArray) (p : Nat) (w : World) (hs : s.size ≤ 1048576) (hp : p + 1 < s.size) (h1 : at_ s p = 92) (h2 : at_ s (p + 1) = 117) (hE : ErrVar w "strconv.ErrSyntax") (h3 : 55296 ≤ four s (p + 2)) (h4 : four s (p + 2) ≤ 56319) (h5 : at_ s (p + 6) = 92) (h6 : at_ s (p + 7) = 117) (h7 : 56320 ≤ four s (p + 8)) (h8 : four s (p + 8) ≤ 57343) :
    Calls Tryz.prog 169 #[.string s, .int .i64 p] w fun e w' => e = .returned (.tuple #[.int .i64 (uF s (p + 1)).1, .int .i64 (uF s (p + 1)).2]) ∧ Below w.heap.size w w' := by
  have HN := Lib.hid (fun a ha w hE => num_anyI s a p ha w hs (by omega) hE)
  have H0 := Lib.hid hE
  have en : numF s p = (four s (p + 2), (p : Int) + 6) := if_pos ⟨h1, h2, by omega⟩
  rw [en] at HN
  have hb := four_bd s (p + 2)
  have hroom := four_room (s := s) (p := p + 2) (by omega)
  have hr8 := four_room (s := s) (p := p + 8) (by omega)
  have e : uF s (p + 1) = (65536 + 1024 * (four s (p + 2) - 55296) + four s (p + 8) - 56320, (p : Int) + 12) := by
    unfold uF
    rw [show p + 1 + 1 = p + 2 from rfl, show p + 1 + 5 = p + 6 from rfl, show p + 1 + 6 = p + 7 from rfl, show p + 1 + 7 = p + 8 from rfl, if_neg (by omega), if_neg (by omega), if_neg (by omega), if_pos ⟨by omega, h5, h6, h7, h8⟩]
    rfl
  rw [e]
  have HR := Lib.hid (fun w => rune.impl_ok (four s (p + 2)) w)
  rw [rune.okR_no (by omega)] at HR
  have HM := Lib.hid (fun a ha w hE => num_anyI s a (p + 6) ha w hs (by omega) hE)
  have HS := Lib.hid (fun w => second_any (four s (p + 2)) w (by omega) (by omega))
  rw [decide_eq_false (by omega)] at HS
  have em : numF s (p + 6) = (four s (p + 8), (p : Int) + 12) := if_pos ⟨h5, h6, by rw [show p + 6 + 2 = p + 8 from rfl]; omega⟩
  have HS2 := Lib.hid (fun w => second_any (four s (p + 8)) w (by omega) (by omega))
  rw [decide_eq_true ⟨h7, h8⟩] at HS2
  rw [em] at HM
  generalize four s (p + 2) = n at *
  generalize four s (p + 8) = m at *
  clear e en em hE
  go_enter Tryz.func169, Tryz.ntmps169
  go_wp2_with fail
  refine (HN.out _ (by rfl) _ H0.out).mono ?_
  rintro e w1 ⟨rfl, hb1⟩
  go_wp2_with fail
  refine (HR.out _).mono ?_
  rintro e w2 ⟨rfl, rfl⟩
  go_wp2_with fail
  refine (HM.out _ (by omega) _ (H0.out.below hb1)).mono ?_
  rintro e w2 ⟨rfl, hb2⟩
  have hb3 := hb1.trans (hb2.mono hb1.size)
  go_wp2_with fail
  refine (HS.out _).mono ?_
  rintro e w3 ⟨rfl, rfl⟩
  go_wp2_with fail
  refine (HS2.out _).mono ?_
  rintro e w3 ⟨rfl, rfl⟩
  go_wp2_with fail
  go_ret2
  exact ⟨rfl, hb3⟩
theorem uni_any (s : ByteArray) (p : Nat) (w : World) (hs : s.size ≤ 1048576) (hp : p + 1 < s.size) (h1 : at_ s p = 92) (h2 : at_ s (p + 1) = 117) (hE : ErrVar w "strconv.ErrSyntax") :
    Calls Tryz.prog 169 #[.string s, .int .i64 p] w fun e w' => e = .returned (.tuple #[.int .i64 (uF s (p + 1)).1, .int .i64 (uF s (p + 1)).2]) ∧ Below w.heap.size w w' := by
  by_cases c1 : four s (p + 2) < 0
  · exact uni_bad s p w hs hp h1 h2 hE c1
  by_cases c2 : 56320 ≤ four s (p + 2) ∧ four s (p + 2) ≤ 57343
  · exact uni_low s p w hs hp h1 h2 hE c2.1 c2.2
  by_cases c3 : 55296 ≤ four s (p + 2) ∧ four s (p + 2) ≤ 56319
  · by_cases c4 : at_ s (p + 6) = 92 ∧ at_ s (p + 7) = 117 ∧ 56320 ≤ four s (p + 8) ∧ four s (p + 8) ≤ 57343
    · exact uni_two s p w hs hp h1 h2 hE c3.1 c3.2 c4.1 c4.2.1 c4.2.2.1 c4.2.2.2
    · exact uni_half s p w hs hp h1 h2 hE c3.1 c3.2 c4
  · exact uni_one s p w hs hp h1 h2 hE (by omega) (by omega)

/-! letterRune. -/
def idxL (x : Int) : Int := if x = 34 then 0 else if x = 92 then 1 else if x = 98 then 2 else if x = 102 then 3 else if x = 110 then 4 else if x = 114 then 5 else if x = 116 then 6 else -1
theorem indexL_all : ∀ n : Fin 256, Lib.indexByte [34, 92, 98, 102, 110, 114, 116] (UInt8.ofNat n.val) = idxL (n.val : Int) := by decide +kernel
theorem index_let (x : Int) (w : World) (h0 : 0 ≤ x) (h1 : x < 256) :
    Calls Tryz.prog 88 #[.string ⟨#[34, 92, 98, 102, 110, 114, 116]⟩, .int .u8 x] w fun e w' => e = .returned (.int .i64 (idxL x)) ∧ w = w' := by
  refine (Tryz.strings_IndexByte _ x w).mono ?_
  rintro e w' ⟨rfl, rfl⟩
  have h := indexL_all ⟨x.toNat, by omega⟩
  refine ⟨ret_int ?_, rfl⟩
  have hx : ((x.toNat : Nat) : Int) = x := by omega
  simp only [hx] at h
  exact h
theorem escL_plain {s : ByteArray} {p : Nat} {n : Int} (hp : p < s.size) (h : plain (at_ s p) = some n) : escF s p = (n, (p : Int) + 1) := by
  unfold escF
  rw [if_pos hp, h]
  rfl
theorem escL_none {s : ByteArray} {p : Nat} (h : plain (at_ s p) = none) (h2 : at_ s p ≠ 117) : escF s p = (0, -1) := by
  unfold escF
  by_cases hp : p < s.size
  · rw [if_pos hp, h]
    exact if_neg h2
  · rw [if_neg hp]
theorem let_out (s : ByteArray) (p : Nat) (w : World) (hs : s.size ≤ 1048576) (hp : p ≤ s.size) (h : s.size ≤ p) :
    Calls Tryz.prog 170 #[.string s, .int .i64 p] w fun e w' => e = .returned (.tuple #[.int .i64 0, .int .i64 (-1)]) ∧ w = w' := by
  go_enter Tryz.func170, Tryz.ntmps170
  go_wp2_with fail
  go_ret2
  exact ⟨rfl, rfl⟩
theorem let_slash (s : ByteArray) (p : Nat) (w : World) (hs : s.size ≤ 1048576) (hp : p < s.size) (h : at_ s p = 47) :
    Calls Tryz.prog 170 #[.string s, .int .i64 p] w fun e w' => e = .returned (.tuple #[.int .i64 47, .int .i64 ((p : Int) + 1)]) ∧ w = w' := by
  have eat := at_eq s p hp
  rw [h] at eat
  go_enter Tryz.func170, Tryz.ntmps170
  go_wp2_with fail
  go_ret2
  exact ⟨rfl, rfl⟩
theorem let_hit (s : ByteArray) (p : Nat) (w : World) (hs : s.size ≤ 1048576) (hp : p < s.size) (x i v : Int) (hx : at_ s p = x) (h0 : 0 ≤ x) (h1 : x < 256) (h47 : (x == 47) = false) (hi : idxL x = i) (hi0 : 0 ≤ i) (hi1 : i < 7) (hv0 : 0 ≤ v) (hv1 : v < 256) (hb : ∀ h, (((⟨#[34, 92, 8, 12, 10, 13, 9]⟩ : ByteArray)[i.toNat]'h).toNat : Int) = v) :
    Calls Tryz.prog 170 #[.string s, .int .i64 p] w fun e w' => e = .returned (.tuple #[.int .i64 v, .int .i64 ((p : Int) + 1)]) ∧ w = w' := by
  have eat := at_eq s p hp
  rw [hx] at eat
  have HI := Lib.hid (fun w => index_let x w h0 h1)
  rw [hi] at HI
  clear hi
  go_enter Tryz.func170, Tryz.ntmps170
  go_wp2_with fail
  refine (HI.out _).mono ?_
  rintro e w1 ⟨rfl, rfl⟩
  go_wp2_with fail
  go_ret2
  exact ⟨rfl, rfl⟩
theorem let_miss (s : ByteArray) (p : Nat) (w : World) (hs : s.size ≤ 1048576) (hp : p < s.size) (x : Int) (hx : at_ s p = x) (h0 : 0 ≤ x) (h1 : x < 256) (h47 : (x == 47) = false) (hi : idxL x = -1) :
    Calls Tryz.prog 170 #[.string s, .int .i64 p] w fun e w' => e = .returned (.tuple #[.int .i64 0, .int .i64 (-1)]) ∧ w = w' := by
  have eat := at_eq s p hp
  rw [hx] at eat
  have HI := Lib.hid (fun w => index_let x w h0 h1)
  rw [hi] at HI
  clear hi
  go_enter Tryz.func170, Tryz.ntmps170
  go_wp2_with fail
  refine (HI.out _).mono ?_
  rintro e w1 ⟨rfl, rfl⟩
  go_wp2_with fail
  go_ret2
  exact ⟨rfl, rfl⟩
theorem let_any (s : ByteArray) (p : Nat) (w : World) (hs : s.size ≤ 1048576) (hp : p ≤ s.size) (hu : p < s.size → at_ s p ≠ 117) :
    Calls Tryz.prog 170 #[.string s, .int .i64 p] w fun e w' => e = .returned (.tuple #[.int .i64 (escF s p).1, .int .i64 (escF s p).2]) ∧ w = w' := by
  by_cases h : p < s.size
  · have hbd := at_bd s p
    by_cases c : at_ s p = 47
    · rw [escL_plain (n := 47) h (by rw [c]; rfl)]; exact let_slash s p w hs h c
    by_cases h34 : at_ s p = 34
    · rw [escL_plain (n := 34) h (by rw [h34]; rfl)]; exact let_hit s p w hs h 34 0 34 h34 (by decide) (by decide) rfl rfl (by decide) (by decide) (by decide) (by decide) (fun _ => rfl)
    by_cases h92 : at_ s p = 92
    · rw [escL_plain (n := 92) h (by rw [h92]; rfl)]; exact let_hit s p w hs h 92 1 92 h92 (by decide) (by decide) rfl rfl (by decide) (by decide) (by decide) (by decide) (fun _ => rfl)
    by_cases h98 : at_ s p = 98
    · rw [escL_plain (n := 8) h (by rw [h98]; rfl)]; exact let_hit s p w hs h 98 2 8 h98 (by decide) (by decide) rfl rfl (by decide) (by decide) (by decide) (by decide) (fun _ => rfl)
    by_cases h102 : at_ s p = 102
    · rw [escL_plain (n := 12) h (by rw [h102]; rfl)]; exact let_hit s p w hs h 102 3 12 h102 (by decide) (by decide) rfl rfl (by decide) (by decide) (by decide) (by decide) (fun _ => rfl)
    by_cases h110 : at_ s p = 110
    · rw [escL_plain (n := 10) h (by rw [h110]; rfl)]; exact let_hit s p w hs h 110 4 10 h110 (by decide) (by decide) rfl rfl (by decide) (by decide) (by decide) (by decide) (fun _ => rfl)
    by_cases h114 : at_ s p = 114
    · rw [escL_plain (n := 13) h (by rw [h114]; rfl)]; exact let_hit s p w hs h 114 5 13 h114 (by decide) (by decide) rfl rfl (by decide) (by decide) (by decide) (by decide) (fun _ => rfl)
    by_cases h116 : at_ s p = 116
    · rw [escL_plain (n := 9) h (by rw [h116]; rfl)]; exact let_hit s p w hs h 116 6 9 h116 (by decide) (by decide) rfl rfl (by decide) (by decide) (by decide) (by decide) (fun _ => rfl)
    have hn : plain (at_ s p) = none := by unfold plain; rw [if_neg h34, if_neg h92, if_neg c, if_neg h98, if_neg h102, if_neg h110, if_neg h114, if_neg h116]
    have hi : idxL (at_ s p) = -1 := by unfold idxL; rw [if_neg h34, if_neg h92, if_neg h98, if_neg h102, if_neg h110, if_neg h114, if_neg h116]
    rw [escL_none hn (hu h)]
    exact let_miss s p w hs h _ rfl hbd.1 hbd.2 (by simpa using c) hi
  · have e : escF s p = (0, -1) := by unfold escF; rw [if_neg h]
    rw [e]
    exact let_out s p w hs hp (by omega)
theorem let_anyI (s : ByteArray) (a : Int) (p : Nat) (ha : a = (p : Int)) (w : World) (hs : s.size ≤ 1048576) (hp : p ≤ s.size) (hu : p < s.size → at_ s p ≠ 117) :
    Calls Tryz.prog 170 #[.string s, .int .i64 a] w fun e w' => e = .returned (.tuple #[.int .i64 (escF s p).1, .int .i64 (escF s p).2]) ∧ w = w' := by
  subst ha
  exact let_any s p w hs hp hu

/-! quotedRune. -/
theorem qr_any (s : ByteArray) (p : Nat) (w : World) (hs : s.size ≤ 1048576) (hp : p ≤ s.size) (hT : rune.Tabs w) (hE : ErrVar w "strconv.ErrSyntax") :
    Calls Tryz.prog 136 #[.string s, .int .i64 p] w fun e w' => e = .returned (.tuple #[.int .i64 (stepF s p).1, .int .i64 (stepF s p).2]) ∧ Below w.heap.size w w' := by
  have H1 := Lib.hid (fun w => pre1 s p 92 w)
  have H2 := Lib.hid (fun w => pre2 s p 92 117 w)
  by_cases c2 : p + 1 < s.size ∧ at_ s p = 92 ∧ at_ s (p + 1) = 117
  · have HU := Lib.hid (uni_any s p w hs c2.1 c2.2.1 c2.2.2 hE)
    have e : stepF s p = uF s (p + 1) := by
      unfold stepF escF
      rw [if_pos ⟨by omega, c2.2.1⟩, if_pos c2.1, c2.2.2]
      rfl
    rw [e]
    have ed : decide (p + 1 < s.size ∧ at_ s p = (((92 : UInt8).toNat : Nat) : Int) ∧ at_ s (p + 1) = (((117 : UInt8).toNat : Nat) : Int)) = true := decide_eq_true c2
    simp only [ed] at H2
    clear e hT hE H1 c2 ed
    generalize (uF s (p + 1)).1 = x at HU ⊢
    generalize (uF s (p + 1)).2 = y at HU ⊢
    go_enter Tryz.func136, Tryz.ntmps136
    go_wp2_with fail
    refine (H2.out _).mono ?_
    rintro e w1 ⟨rfl, rfl⟩
    go_wp2_with fail
    refine HU.out.mono ?_
    rintro e w1 ⟨rfl, hb⟩
    go_wp2_with fail
    go_ret2
    exact ⟨rfl, hb⟩
  have ed : decide (p + 1 < s.size ∧ at_ s p = (((92 : UInt8).toNat : Nat) : Int) ∧ at_ s (p + 1) = (((117 : UInt8).toNat : Nat) : Int)) = false := decide_eq_false c2
  simp only [ed] at H2
  by_cases c1 : p < s.size ∧ at_ s p = 92
  · have HL := Lib.hid (fun a ha w => let_anyI s a (p + 1) ha w hs (by omega) (fun hc hd => c2 ⟨hc, c1.2, hd⟩))
    have e : stepF s p = escF s (p + 1) := by unfold stepF; rw [if_pos c1]
    rw [e]
    have ed1 : decide (p < s.size ∧ at_ s p = (((92 : UInt8).toNat : Nat) : Int)) = true := decide_eq_true c1
    simp only [ed1] at H1
    clear e hT hE c1 c2 ed ed1
    generalize (escF s (p + 1)).1 = x at HL ⊢
    generalize (escF s (p + 1)).2 = y at HL ⊢
    go_enter Tryz.func136, Tryz.ntmps136
    go_wp2_with fail
    refine (H2.out _).mono ?_
    rintro e w1 ⟨rfl, rfl⟩
    go_wp2_with fail
    refine (H1.out _).mono ?_
    rintro e w1 ⟨rfl, rfl⟩
    go_wp2_with fail
    refine (HL.out _ (by omega) _).mono ?_
    rintro e w1 ⟨rfl, rfl⟩
    go_wp2_with fail
    go_ret2
    exact ⟨rfl, Below.refl _ _⟩
  have ed1 : decide (p < s.size ∧ at_ s p = (((92 : UInt8).toNat : Nat) : Int)) = false := decide_eq_false c1
  simp only [ed1] at H1
  have HA := Lib.hid (rune.impl_at s p w (by unfold maxLen; omega) hT)
  have e : stepF s p = runeF s p := by unfold stepF; rw [if_neg c1]
  rw [e]
  unfold runeF
  clear e hT hE c1 c2 ed ed1
  generalize rune.atF s (p : Int) = r at HA ⊢
  obtain ⟨x, y⟩ := r
  by_cases hx : x < 32
  · rw [if_pos hx]
    go_enter Tryz.func136, Tryz.ntmps136
    go_wp2_with fail
    refine (H2.out _).mono ?_
    rintro e w1 ⟨rfl, rfl⟩
    go_wp2_with fail
    refine (H1.out _).mono ?_
    rintro e w1 ⟨rfl, rfl⟩
    go_wp2_with fail
    refine HA.out.mono ?_
    rintro e w1 ⟨rfl, hb⟩
    go_wp2_with fail
    go_ret2
    exact ⟨rfl, hb⟩
  · rw [if_neg hx]
    go_enter Tryz.func136, Tryz.ntmps136
    go_wp2_with fail
    refine (H2.out _).mono ?_
    rintro e w1 ⟨rfl, rfl⟩
    go_wp2_with fail
    refine (H1.out _).mono ?_
    rintro e w1 ⟨rfl, rfl⟩
    go_wp2_with fail
    refine HA.out.mono ?_
    rintro e w1 ⟨rfl, hb⟩
    go_wp2_with fail
    go_ret2
    exact ⟨rfl, hb⟩
end Go.Proofs.YtegpcjkcejijpaaGreatDoor.readq
namespace Go.Proofs.YtegpcjkcejijpaaGreatDoor.readq
open Go.ChangeShapes Go.WideShapes Go.ChangeAt Go.RowKit
set_option linter.unusedVariables false

theorem istep_of {s : ByteArray} {p p0 : Nat} {l : List UInt8} (h : ¬ (p < s.size ∧ at_ s p = 34)) (hp : p ≤ s.size) (hr : readQ s p l = readQ s (p0 + 1) []) :
    ((stepF s p).2 < 0 ∧ readQ s (p0 + 1) [] = none) ∨ ∃ q : Nat, (stepF s p).2 = (q : Int) ∧ p < q ∧ q ≤ s.size ∧ 0 ≤ (stepF s p).1 ∧ (stepF s p).1 ≤ 1114111 ∧ readQ s q (l ++ (rune.textF (stepF s p).1).data.toList) = readQ s (p0 + 1) [] := by
  have h' : at_ s p ≠ 34 ∨ s.size ≤ p := by
    by_cases hlt : p < s.size
    · exact .inl (fun e => h ⟨hlt, e⟩)
    · exact .inr (by omega)
  rcases step_fine s p with hf | ⟨q, e, h4, h5, h6, h7⟩
  · exact .inl ⟨by omega, by rw [← hr]; exact read_bad h' (by omega)⟩
  · rcases h' with h' | h'
    · refine .inr ⟨q, e, h4, h5, h6, h7, ?_⟩
      rw [← hr]
      exact (read_go (by omega) h' (by rw [← e]) h4).symm
    · omega

set_option maxHeartbeats 4000000 in
set_option maxRecDepth 100000 in
theorem impl_in (s : ByteArray) (p0 : Nat) (w : World) (hs : s.size ≤ 1048576) (h0 : p0 < s.size) (h34 : at_ s p0 = 34) (hT : rune.Tabs w) (hE : ErrVar w "strconv.ErrSyntax") :
    Calls Tryz.prog 92 #[.string s, .int .i64 p0] w fun e w' => e = .returned (.tuple #[.string (quotedIn s p0).1, .int .i64 (quotedIn s p0).2]) ∧ Below w.heap.size w w' := by
  obtain ⟨i0, hi, hz0, hz1, hz2⟩ := info_parts binfo.Tryzinfo
  have HP0 := Lib.hid (fun w => pre1 s p0 34 w)
  have ed0 : decide (p0 < s.size ∧ at_ s p0 = (((34 : UInt8).toNat : Nat) : Int)) = true := decide_eq_true ⟨h0, h34⟩
  simp only [ed0] at HP0
  have HT0 := Lib.hid hT
  have HE0 := Lib.hid hE
  have HY : Hid (∀ l q, some (l, q) = readQ s (p0 + 1) [] → quotedIn s p0 = (⟨l.toArray⟩, (q : Int))) := fun l q h => in_some h.symm
  have HN : Hid (readQ s (p0 + 1) [] = none → quotedIn s p0 = (⟨#[]⟩, -1)) := fun h => in_none h
  have hown1 : (w.alloc (.cells #[] 5)).ownsRow w.heap.size 5 1 (.slice (some ⟨w.heap.size, 0, none⟩) 0 0) 0 (bcells []) := World.ownsRow_lit w #[] 0 (Nat.le_refl _) (by simp [maxLen]) rfl
  have Hown := Lib.hid hown1
  have Hb := Lib.hid ((Below.refl w.heap.size w).alloc (Nat.le_refl _) (.cells #[] 5))
  clear hown1 hT hE h34 ed0
  have d0 : decide ((p0 : Int) < 0) = false := decide_eq_false (by omega)
  have d1 : decide ((s.size : Int) ≤ (p0 : Int)) = false := decide_eq_false (by omega)
  have d2 : decide (s.size ≤ p0) = false := decide_eq_false (by omega)
  go_enter Tryz.func92, Tryz.ntmps92
  go_wp2_with fail
  refine (HP0.out _).mono ?_
  rintro e w1 ⟨rfl, rfl⟩
  clear HP0
  go_wp2_with fail
  go_loopw [1, 6] (fun i v wr => ∃ (p m : Nat) (l : List UInt8), i = .int .i64 p ∧ p ≤ s.size ∧ m ≤ 4 * p ∧ l.length = m ∧ Hid (readQ s p l = readQ s (p0 + 1) []) ∧ wr.ownsRow w.heap.size 5 1 v m (bcells l) ∧ Below w.heap.size w wr) (fun i _ _ => s.size - (intOf i).toNat)
  case atStart => exact ⟨p0 + 1, 0, [], by go_num, by omega, by omega, rfl, rfl, Hown.out, Hb.out⟩
  case round =>
    clear Hown Hb
    obtain ⟨p, m, l, rfl, hp, hm, hlen, hr, hown, hbel⟩ := hrel
    have HP := Lib.hid (fun w => pre1 s p 34 w)
    by_cases c34 : p < s.size ∧ at_ s p = 34
    · have ed : decide (p < s.size ∧ at_ s p = (((34 : UInt8).toNat : Nat) : Int)) = true := decide_eq_true c34
      simp only [ed] at HP
      have HR := Lib.hid (HY.out l (p + 1) ((read_close c34.1 c34.2).symm.trans hr.out))
      have hconv := binfo.conv hlen hown
      have Hbel := Lib.hid hbel
      clear hown hbel hr hlen c34 ed
      go_wp2_with fail
      refine (HP.out _).mono ?_
      rintro e w1 ⟨rfl, rfl⟩
      go_wp2_with fail
      go_ret2
      exact ⟨by rw [HR.out]; rfl, Hbel.out⟩
    · have ed : decide (p < s.size ∧ at_ s p = (((34 : UInt8).toNat : Nat) : Int)) = false := decide_eq_false c34
      simp only [ed] at HP
      have HS := Lib.hid (istep_of c34 hp hr.out)
      have HQ := Lib.hid (qr_any s p wr hs hp (HT0.out.below hbel) (HE0.out.below hbel))
      have Hlen := Lib.hid hlen
      generalize stepF s p = r at HQ HS
      clear hr c34 hlen ed
      obtain ⟨x, y⟩ := r
      rcases HS.out with ⟨hy, hn⟩ | ⟨q, hy, hpq, hqs, hx0, hx1, hnext⟩
      · have hy' : y < 0 := hy
        have HR := Lib.hid (HN.out hn)
        clear HS hn hy hown
        go_wp2_with fail
        refine (HP.out _).mono ?_
        rintro e w1 ⟨rfl, rfl⟩
        clear HP
        go_wp2_with fail
        refine HQ.out.mono ?_
        rintro e w2 ⟨rfl, hb2⟩
        have hbel2 := hbel.trans (hb2.mono hbel.size)
        clear HQ hbel hb2
        go_wp2_with fail
        go_ret2
        exact ⟨by rw [HR.out]; rfl, hbel2⟩
      · obtain rfl : y = (q : Int) := hy
        have Hn := Lib.hid hnext
        have HT := Lib.hid (fun w => rune.impl_text x w)
        have h4 := rune.text_le x
        clear HS hnext
        go_wp2_with fail
        refine (HP.out _).mono ?_
        rintro e w1 ⟨rfl, rfl⟩
        clear HP
        go_wp2_with fail
        refine HQ.out.mono ?_
        rintro e w1 ⟨rfl, hb1⟩
        have hown2 := own_below hown hb1
        have hbel2 := hbel.trans (hb1.mono hbel.size)
        clear HQ hown hbel hb1
        go_wp2_with fail
        refine (HT.out _).mono ?_
        rintro e w2 ⟨rfl, rfl⟩
        clear HT
        have Hn2 : Hid (readQ s q (l ++ (rune.textF x).data.toList) = readQ s (p0 + 1) []) := Hn.out
        clear Hn hx0 hx1
        generalize rune.textF x = t at Hn2 h4
        go_wp2_with (first | (at_builtin; refine Lib.wpList_append_own_string _ rfl (.tmp 40) (.tmp 42) 22 9 rfl w.heap.size 5 i0 Tryz.underlying22 Tryz.underlying9 hi hz0 hz1 hz2 _ m _ rfl hown2 t rfl (by unfold maxLen; omega) (by omega) (by have := hbel2.size; omega) ?_) | fail)
        intro v3 w3 hown3 hg3 _
        have hbel3 : Below w.heap.size w w3 := hbel2.grown hg3 (by have := hbel2.size; omega) (fun b hb => (hown2.lt b hb).1)
        rw [show Lib.strCells t = bcells t.data.toList from rfl, ← bcells_append] at hown3
        clear hown2 hbel2 hg3
        go_wp2_with fail
        go_roundw
        case rel => exact ⟨q, m + t.size, l ++ t.data.toList, rfl, hqs, by omega, by rw [List.length_append, Hlen.out]; simp, Hn2.out, hown3, hbel3⟩
        case measure => simp [intOf]; omega
theorem impl_readq (s : ByteArray) (a : Int) (w : World) (hs : s.size ≤ 1048576) (ha0 : -9223372036854775808 ≤ a) (ha1 : a ≤ 9223372036854775807) (hT : rune.Tabs w) (hE : ErrVar w "strconv.ErrSyntax") :
    Calls Tryz.prog 92 #[.string s, .int .i64 a] w fun e w' => e = .returned (.tuple #[.string (readF s a).1, .int .i64 (readF s a).2]) ∧ Below w.heap.size w w' := by
  by_cases h : 0 ≤ a ∧ a < s.size
  · obtain ⟨p, rfl⟩ := Int.eq_ofNat_of_zero_le h.1
    by_cases c : at_ s p = 34
    · rw [readF_yes (by omega) c]
      exact impl_in s p w hs (by omega) c hT hE
    · rw [readF_no (fun hc => c (by simpa using hc.2.2))]
      have HP := Lib.hid (fun w => pre1 s p 34 w)
      have ed : decide (p < s.size ∧ at_ s p = (((34 : UInt8).toNat : Nat) : Int)) = false := decide_eq_false (fun hc => c hc.2)
      simp only [ed] at HP
      have hlt : p < s.size := by omega
      clear hT hE
      go_enter Tryz.func92, Tryz.ntmps92
      go_wp2_with fail
      refine (HP.out _).mono ?_
      rintro e w1 ⟨rfl, rfl⟩
      go_wp2_with fail
      go_ret2
      exact ⟨rfl, Below.refl _ _⟩
  · rw [readF_no (fun hc => h ⟨hc.1, hc.2.1⟩)]
    clear hT hE
    rcases (by omega : a < 0 ∨ (s.size : Int) ≤ a) with c | c
    all_goals
      go_enter Tryz.func92, Tryz.ntmps92
      go_wp2_with fail
      go_ret2
      exact ⟨rfl, Below.refl _ _⟩
end Go.Proofs.YtegpcjkcejijpaaGreatDoor.readq
