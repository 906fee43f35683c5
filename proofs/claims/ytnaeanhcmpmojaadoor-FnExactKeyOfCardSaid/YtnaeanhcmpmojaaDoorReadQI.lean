/- impl.quotedRune and what it calls. (printed by gen_readqi.py) -/
import Derived.Test.YtnaeanhcmpmojaaDoorHexParse
import Derived.Test.YtnaeanhcmpmojaaDoorRnAtI
import Derived.Test.YtnaeanhcmpmojaaDoorRnI
namespace Go.Proofs.YtnaeanhcmpmojaaDoor.readq
open Go.ChangeShapes Go.WideShapes Go.ChangeAt Go.RowKit
set_option linter.unusedVariables false

def ErrVar (w : World) (n : String) : Prop := ∃ a : Addr, w.var? Tryd.prog n = some #[.iface 137 (.pointer (some a))]
theorem ErrVar.below {w w' : World} {n : String} (h : ErrVar w n) (hb : Below w.heap.size w w') : ErrVar w' n := by
  obtain ⟨a, h⟩ := h
  exact ⟨a, var_below h hb⟩

theorem drop_list (s : ByteArray) (p : Nat) : (s.extract p s.size).data.toList = s.data.toList.drop p := by
  rw [ByteArray.data_extract, Array.toList_extract, List.extract_eq_take_drop]
  apply List.take_of_length_le
  simp
theorem at_get (s : ByteArray) (p : Nat) (h : p < s.data.toList.length) : ((s.data.toList[p]).toNat : Int) = at_ s p := by
  unfold at_
  rw [List.getD_eq_getElem?_getD, List.getElem?_eq_getElem h, Option.getD_some]
theorem drop_cons (s : ByteArray) (p : Nat) (h : p < s.size) : ∃ x, s.data.toList.drop p = x :: s.data.toList.drop (p + 1) ∧ (x.toNat : Int) = at_ s p := by
  have h2 : p < s.data.toList.length := by simpa using h
  exact ⟨s.data.toList[p], List.drop_eq_getElem_cons h2, at_get s p h2⟩
theorem byte_iff (b x : UInt8) (z : Int) (h : (x.toNat : Int) = z) : (b = x) ↔ z = (b.toNat : Int) := by
  constructor
  · intro e; rw [e, h]
  · intro e; exact UInt8.toNat.inj (by omega)
theorem pre1_eq (s : ByteArray) (p : Nat) (b : UInt8) : Lib.hasPrefix (s.extract p s.size).data.toList [b] = decide (p < s.size ∧ at_ s p = (b.toNat : Int)) := by
  rw [drop_list]
  have e : s.data.toList.length = s.size := by simp
  by_cases h : p < s.size
  · obtain ⟨x, hd, hx⟩ := drop_cons s p h
    rw [hd]
    have hb := byte_iff b x _ hx
    by_cases c : b = x
    · rw [decide_eq_true ⟨h, hb.1 c⟩]
      simp [Lib.hasPrefix, List.isPrefixOf, c]
    · rw [decide_eq_false (fun ⟨_, hc⟩ => c (hb.2 hc))]
      simp [Lib.hasPrefix, List.isPrefixOf, c]
  · rw [List.drop_eq_nil_of_le (by omega), decide_eq_false (fun hc => h hc.1)]
    rfl
theorem pre2_eq (s : ByteArray) (p : Nat) (b c : UInt8) : Lib.hasPrefix (s.extract p s.size).data.toList [b, c] = decide (p + 1 < s.size ∧ at_ s p = (b.toNat : Int) ∧ at_ s (p + 1) = (c.toNat : Int)) := by
  rw [drop_list]
  have e : s.data.toList.length = s.size := by simp
  by_cases h : p < s.size
  · obtain ⟨x, hd, hx⟩ := drop_cons s p h
    rw [hd]
    have hb := byte_iff b x _ hx
    by_cases h1 : p + 1 < s.size
    · obtain ⟨y, hd2, hy⟩ := drop_cons s (p + 1) h1
      rw [hd2]
      have hc := byte_iff c y _ hy
      by_cases cb : b = x
      · by_cases cc : c = y
        · rw [decide_eq_true ⟨h1, hb.1 cb, hc.1 cc⟩]
          simp [Lib.hasPrefix, List.isPrefixOf, cb, cc]
        · rw [decide_eq_false (fun ⟨_, _, hd⟩ => cc (hc.2 hd))]
          simp [Lib.hasPrefix, List.isPrefixOf, cb, cc]
      · rw [decide_eq_false (fun ⟨_, hd, _⟩ => cb (hb.2 hd))]
        simp [Lib.hasPrefix, List.isPrefixOf, cb]
    · rw [List.drop_eq_nil_of_le (by omega), decide_eq_false (fun hd => h1 hd.1)]
      simp [Lib.hasPrefix, List.isPrefixOf]
  · rw [List.drop_eq_nil_of_le (by omega), decide_eq_false (fun hc => h (by omega))]
    rfl
theorem pre1 (s : ByteArray) (p : Nat) (b : UInt8) (w : World) :
    Calls Tryd.prog 46 #[.string (s.extract p s.size), .string ⟨#[b]⟩] w fun e w' => e = .returned (.bool (decide (p < s.size ∧ at_ s p = (b.toNat : Int)))) ∧ w = w' := by
  refine (Tryd.strings_HasPrefix _ _ w).mono ?_
  rintro e w' ⟨rfl, rfl⟩
  refine ⟨?_, rfl⟩
  rw [← pre1_eq]
theorem pre2 (s : ByteArray) (p : Nat) (b c : UInt8) (w : World) :
    Calls Tryd.prog 46 #[.string (s.extract p s.size), .string ⟨#[b, c]⟩] w fun e w' => e = .returned (.bool (decide (p + 1 < s.size ∧ at_ s p = (b.toNat : Int) ∧ at_ s (p + 1) = (c.toNat : Int)))) ∧ w = w' := by
  refine (Tryd.strings_HasPrefix _ _ w).mono ?_
  rintro e w' ⟨rfl, rfl⟩
  refine ⟨?_, rfl⟩
  rw [← pre2_eq]

/-! unicodeNumber. -/
theorem part_size (s : ByteArray) (p n : Nat) (h : p + n ≤ s.size) : (s.extract p (p + n)).size = n := by rw [ByteArray.size_extract]; omega
theorem part_at (s : ByteArray) (p n j : Nat) (h : j < n) : at_ (s.extract p (p + n)) j = at_ s (p + j) := by
  unfold at_
  rw [ByteArray.data_extract, Array.toList_extract, List.extract_eq_take_drop, Nat.add_sub_cancel_left, List.getD_eq_getElem?_getD, List.getElem?_take_of_lt h, List.getElem?_drop, List.getD_eq_getElem?_getD]
theorem part_acc (s : ByteArray) (p n : Nat) : ∀ k, k ≤ n → acc (s.extract p (p + n)) 0 k = acc s p k
  | 0, _ => rfl
  | k + 1, h => by
    have ih := part_acc s p n k (by omega)
    show 16 * acc _ 0 k + hexv (at_ _ (0 + k)) = 16 * acc s p k + hexv (at_ s (p + k))
    rw [ih, Nat.zero_add, part_at s p n k (by omega)]
theorem part_digs (s : ByteArray) (p n k : Nat) (h : k ≤ n) : digs (s.extract p (p + n)) 0 k ↔ digs s p k := by
  unfold digs
  constructor
  · intro hd j hj
    have := hd j hj
    rw [Nat.zero_add, part_at s p n j (by omega)] at this
    exact this
  · intro hd j hj
    rw [Nat.zero_add, part_at s p n j (by omega)]
    exact hd j hj
theorem two_eq {s : ByteArray} {p : Nat} (h : p + 2 ≤ s.size) : s.extract p (p + 2) = ⟨#[92, 117]⟩ ↔ at_ s p = 92 ∧ at_ s (p + 1) = 117 := by
  have e : s.data.toList.length = s.size := by simp
  have h2 := at_get s p (by omega)
  have h3 := at_get s (p + 1) (by omega)
  have hl : (s.extract p (p + 2)).data.toList = [s.data.toList[p]'(by omega), s.data.toList[p + 1]'(by omega)] := by
    rw [ByteArray.data_extract, Array.toList_extract, List.extract_eq_take_drop, Nat.add_sub_cancel_left, List.drop_eq_getElem_cons (by omega), List.drop_eq_getElem_cons (by omega)]
    rfl
  constructor
  · intro hx
    rw [hx] at hl
    have hl2 : ([92, 117] : List UInt8) = [s.data.toList[p]'(by omega), s.data.toList[p + 1]'(by omega)] := hl
    injection hl2 with a1 a2
    injection a2 with a2 _
    rw [← h2, ← h3, ← a1, ← a2]
    exact ⟨rfl, rfl⟩
  · rintro ⟨a1, a2⟩
    apply ByteArray.ext
    apply Array.ext'
    rw [hl]
    have b1 : s.data.toList[p]'(by omega) = 92 := UInt8.toNat.inj (by have : (92 : UInt8).toNat = 92 := rfl; omega)
    have b2 : s.data.toList[p + 1]'(by omega) = 117 := UInt8.toNat.inj (by have : (117 : UInt8).toNat = 117 := rfl; omega)
    rw [b1, b2]
def numF (s : ByteArray) (p : Nat) : Int × Int := if at_ s p = 92 ∧ at_ s (p + 1) = 117 ∧ 0 ≤ four s (p + 2) then (four s (p + 2), ((p + 6 : Nat) : Int)) else (0, -1)
set_option maxHeartbeats 4000000 in
set_option maxRecDepth 100000 in
theorem num_far (s : ByteArray) (p : Nat) (w : World) (hs : s.size ≤ 1048576) (hp : p ≤ s.size) (h : s.size < p + 6) :
    Calls Tryd.prog 133 #[.string s, .int .i64 p] w fun e w' => e = .returned (.tuple #[.int .i64 (numF s p).1, .int .i64 (numF s p).2]) ∧ Below w.heap.size w w' := by
  have e : numF s p = (0, -1) := if_neg (fun hc => by have := four_room hc.2.2; omega)
  rw [e]
  go_enter Tryd.func133, Tryd.ntmps133
  go_wp2_with fail
  go_ret2
  exact ⟨rfl, Below.refl _ _⟩
set_option maxHeartbeats 4000000 in
set_option maxRecDepth 100000 in
theorem num_else (s : ByteArray) (p : Nat) (w : World) (hs : s.size ≤ 1048576) (hp : p ≤ s.size) (h : p + 6 ≤ s.size) (h2 : ¬ (at_ s p = 92 ∧ at_ s (p + 1) = 117)) :
    Calls Tryd.prog 133 #[.string s, .int .i64 p] w fun e w' => e = .returned (.tuple #[.int .i64 (numF s p).1, .int .i64 (numF s p).2]) ∧ Below w.heap.size w w' := by
  have e : numF s p = (0, -1) := if_neg (fun hc => h2 ⟨hc.1, hc.2.1⟩)
  rw [e]
  obtain ⟨m, hm⟩ : ∃ m : Nat, m = p + 2 := ⟨_, rfl⟩
  obtain ⟨q, hq⟩ : ∃ q : Nat, q = m + 4 := ⟨_, rfl⟩
  have ec : (p : Int) + 2 = (m : Int) := by omega
  have ec4 : (m : Int) + 4 = (q : Int) := by omega
  have hpm : p ≤ m := by omega
  have hms : m ≤ s.size := by omega
  have hmq : m ≤ q := by omega
  have hqs : q ≤ s.size := by omega
  have hwm : IntKind.i64.wrap (m : Int) = (m : Int) := IntWalk.i64_in _ (by omega)
  have hwq : IntKind.i64.wrap (q : Int) = (q : Int) := IntWalk.i64_in _ (by omega)
  have hne : (s.extract p m) ≠ ⟨#[92, 117]⟩ := fun hc => h2 ((two_eq (by omega)).1 (hm ▸ hc))
  have hx : ((s.extract p m).toList == [92, 117]) = false := by
    rw [beq_eq_false_iff_ne, ByteArray.toList_eq]
    intro hc
    exact hne (ByteArray.ext (Array.ext' hc))
  clear e hne h2 hm hq
  go_enter Tryd.func133, Tryd.ntmps133
  go_wp2_with fail
  all_goals go_ret2
  all_goals exact ⟨rfl, Below.refl _ _⟩
set_option maxHeartbeats 4000000 in
set_option maxRecDepth 100000 in
theorem num_no (s : ByteArray) (p : Nat) (w : World) (hs : s.size ≤ 1048576) (hp : p ≤ s.size) (h : p + 6 ≤ s.size) (h2 : at_ s p = 92 ∧ at_ s (p + 1) = 117) (h3 : four s (p + 2) < 0) (hE : ErrVar w "strconv.ErrSyntax") :
    Calls Tryd.prog 133 #[.string s, .int .i64 p] w fun e w' => e = .returned (.tuple #[.int .i64 (numF s p).1, .int .i64 (numF s p).2]) ∧ Below w.heap.size w w' := by
  have e : numF s p = (0, -1) := if_neg (fun hc => by have := hc.2.2; omega)
  rw [e]
  obtain ⟨m, hm⟩ : ∃ m : Nat, m = p + 2 := ⟨_, rfl⟩
  obtain ⟨q, hq⟩ : ∃ q : Nat, q = m + 4 := ⟨_, rfl⟩
  have ec : (p : Int) + 2 = (m : Int) := by omega
  have ec4 : (m : Int) + 4 = (q : Int) := by omega
  have hpm : p ≤ m := by omega
  have hms : m ≤ s.size := by omega
  have hmq : m ≤ q := by omega
  have hqs : q ≤ s.size := by omega
  have hwm : IntKind.i64.wrap (m : Int) = (m : Int) := IntWalk.i64_in _ (by omega)
  have hwq : IntKind.i64.wrap (q : Int) = (q : Int) := IntWalk.i64_in _ (by omega)
  have hx : ((s.extract p m).toList == [92, 117]) = true := by
    rw [hm, (two_eq (by omega)).2 h2, ByteArray.toList_eq]
    rfl
  obtain ⟨a, hE⟩ := hE
  rw [← hm] at h3
  have hd : ¬ digs s m 4 := fun hd => by have := four_yes (s := s) (p := m) (by omega) hd; omega
  have hz := part_size s m 4 (by omega)
  have HP := Lib.hid (parse_no (s.extract m (m + 4)) hz (fun hc => hd ((part_digs s m 4 4 (by omega)).1 hc)) w _ _ hE)
  rw [← hq] at HP
  clear e h3 hd hE h2 hz hm hq
  go_enter Tryd.func133, Tryd.ntmps133
  go_wp2_with fail
  refine HP.out.mono ?_
  rintro e w1 ⟨⟨N, rfl⟩, hb⟩
  clear HP
  go_wp2_with fail
  go_ret2
  exact ⟨rfl, hb⟩
set_option maxHeartbeats 4000000 in
set_option maxRecDepth 100000 in
theorem num_yes (s : ByteArray) (p : Nat) (w : World) (hs : s.size ≤ 1048576) (hp : p ≤ s.size) (h : p + 6 ≤ s.size) (h2 : at_ s p = 92 ∧ at_ s (p + 1) = 117) (h3 : 0 ≤ four s (p + 2)) :
    Calls Tryd.prog 133 #[.string s, .int .i64 p] w fun e w' => e = .returned (.tuple #[.int .i64 (numF s p).1, .int .i64 (numF s p).2]) ∧ Below w.heap.size w w' := by
  obtain ⟨m, hm⟩ : ∃ m : Nat, m = p + 2 := ⟨_, rfl⟩
  obtain ⟨q, hq⟩ : ∃ q : Nat, q = m + 4 := ⟨_, rfl⟩
  have ec : (p : Int) + 2 = (m : Int) := by omega
  have ec4 : (m : Int) + 4 = (q : Int) := by omega
  have hpm : p ≤ m := by omega
  have hms : m ≤ s.size := by omega
  have hmq : m ≤ q := by omega
  have hqs : q ≤ s.size := by omega
  have hwm : IntKind.i64.wrap (m : Int) = (m : Int) := IntWalk.i64_in _ (by omega)
  have hwq : IntKind.i64.wrap (q : Int) = (q : Int) := IntWalk.i64_in _ (by omega)
  have e : numF s p = (four s m, (q : Int)) := by
    subst hq hm
    exact if_pos ⟨h2.1, h2.2, h3⟩
  rw [e]
  have hx : ((s.extract p m).toList == [92, 117]) = true := by
    rw [hm, (two_eq (by omega)).2 h2, ByteArray.toList_eq]
    rfl
  rw [← hm] at h3
  have hd : digs s m 4 := by
    by_cases hd : digs s m 4
    · exact hd
    · rw [four_no (fun hc => hd hc.2)] at h3; omega
  have hfy := four_yes (s := s) (p := m) (by omega) hd
  have hz := part_size s m 4 (by omega)
  have HP := Lib.hid (parse_yes (s.extract m (m + 4)) hz ((part_digs s m 4 4 (by omega)).2 hd) w)
  rw [part_acc s m 4 4 (by omega), ← hfy.1, ← hq] at HP
  have hb := four_bd s m
  generalize four s m = n at *
  clear e hd h2 hz hfy hm hq
  go_enter Tryd.func133, Tryd.ntmps133
  go_wp2_with fail
  refine HP.out.mono ?_
  rintro e w1 ⟨rfl, hb⟩
  clear HP
  go_wp2_with fail
  go_ret2
  exact ⟨rfl, hb⟩
theorem num_any (s : ByteArray) (p : Nat) (w : World) (hs : s.size ≤ 1048576) (hp : p ≤ s.size) (hE : ErrVar w "strconv.ErrSyntax") :
    Calls Tryd.prog 133 #[.string s, .int .i64 p] w fun e w' => e = .returned (.tuple #[.int .i64 (numF s p).1, .int .i64 (numF s p).2]) ∧ Below w.heap.size w w' := by
  by_cases h : p + 6 ≤ s.size
  · by_cases h2 : at_ s p = 92 ∧ at_ s (p + 1) = 117
    · by_cases h3 : 0 ≤ four s (p + 2)
      · exact num_yes s p w hs hp h h2 h3
      · exact num_no s p w hs hp h h2 (by omega) hE
    · exact num_else s p w hs hp h h2
  · exact num_far s p w hs hp (by omega)
theorem num_anyI (s : ByteArray) (a : Int) (p : Nat) (ha : a = (p : Int)) (w : World) (hs : s.size ≤ 1048576) (hp : p ≤ s.size) (hE : ErrVar w "strconv.ErrSyntax") :
    Calls Tryd.prog 133 #[.string s, .int .i64 a] w fun e w' => e = .returned (.tuple #[.int .i64 (numF s p).1, .int .i64 (numF s p).2]) ∧ Below w.heap.size w w' := by
  subst ha
  exact num_any s p w hs hp hE

/-! isSecondHalf, unicodeRune. -/
theorem second_any (n : Int) (w : World) (h0 : 0 ≤ n) (h1 : n ≤ 65535) :
    Calls Tryd.prog 134 #[.int .i64 n] w fun e w' => e = .returned (.bool (decide (56320 ≤ n ∧ n ≤ 57343))) ∧ w = w' := by
  have HH := Lib.hid (fun w => rune.impl_half n w)
  by_cases a : 55296 ≤ n
  · by_cases b : n ≤ 57343
    · rw [decide_eq_true a, decide_eq_true b] at HH
      by_cases c : 56320 ≤ n
      · rw [decide_eq_true ⟨c, b⟩]
        go_enter Tryd.func134, Tryd.ntmps134
        go_wp2_with fail
        refine (HH.out _).mono ?_
        rintro e w1 ⟨rfl, rfl⟩
        go_wp2_with fail
        go_ret
        exact ⟨rfl, rfl⟩
      · rw [decide_eq_false (fun hc => c hc.1)]
        have ec := decide_eq_false c
        go_enter Tryd.func134, Tryd.ntmps134
        go_wp2_with fail
        refine (HH.out _).mono ?_
        rintro e w1 ⟨rfl, rfl⟩
        go_wp2_with fail
        go_ret
        exact ⟨rfl, rfl⟩
    · rw [decide_eq_true a, decide_eq_false b] at HH
      rw [decide_eq_false (fun hc => b hc.2)]
      go_enter Tryd.func134, Tryd.ntmps134
      go_wp2_with fail
      refine (HH.out _).mono ?_
      rintro e w1 ⟨rfl, rfl⟩
      go_wp2_with fail
      go_ret
      exact ⟨rfl, rfl⟩
  · rw [decide_eq_false a] at HH
    rw [decide_eq_false (by omega)]
    go_enter Tryd.func134, Tryd.ntmps134
    go_wp2_with fail
    refine (HH.out _).mono ?_
    rintro e w1 ⟨rfl, rfl⟩
    go_wp2_with fail
    go_ret
    exact ⟨rfl, rfl⟩
set_option maxHeartbeats 4000000 in
set_option maxRecDepth 100000 in
theorem uni_bad (s : ByteArray) (p : Nat) (w : World) (hs : s.size ≤ 1048576) (hp : p + 1 < s.size) (h1 : at_ s p = 92) (h2 : at_ s (p + 1) = 117) (hE : ErrVar w "strconv.ErrSyntax") (h3 : four s (p + 2) < 0) :
    Calls Tryd.prog 121 #[.string s, .int .i64 p] w fun e w' => e = .returned (.tuple #[.int .i64 (uF s (p + 1)).1, .int .i64 (uF s (p + 1)).2]) ∧ Below w.heap.size w w' := by
  have HN := Lib.hid (fun a ha w hE => num_anyI s a p ha w hs (by omega) hE)
  have H0 := Lib.hid hE
  have e : uF s (p + 1) = (0, -1) := by unfold uF; rw [if_pos h3]
  rw [e]
  have en : numF s p = (0, -1) := if_neg (fun hc => by have := hc.2.2; omega)
  rw [en] at HN
  clear e en hE
  go_enter Tryd.func121, Tryd.ntmps121
  go_wp2_with fail
  refine (HN.out _ (by rfl) _ H0.out).mono ?_
  rintro e w1 ⟨rfl, hb1⟩
  go_wp2_with fail
  go_ret2
  exact ⟨rfl, hb1⟩
set_option maxHeartbeats 4000000 in
set_option maxRecDepth 100000 in
theorem uni_one (s : ByteArray) (p : Nat) (w : World) (hs : s.size ≤ 1048576) (hp : p + 1 < s.size) (h1 : at_ s p = 92) (h2 : at_ s (p + 1) = 117) (hE : ErrVar w "strconv.ErrSyntax") (h3 : 0 ≤ four s (p + 2)) (h4 : ¬ (55296 ≤ four s (p + 2) ∧ four s (p + 2) ≤ 57343)) :
    Calls Tryd.prog 121 #[.string s, .int .i64 p] w fun e w' => e = .returned (.tuple #[.int .i64 (uF s (p + 1)).1, .int .i64 (uF s (p + 1)).2]) ∧ Below w.heap.size w w' := by
  have HN := Lib.hid (fun a ha w hE => num_anyI s a p ha w hs (by omega) hE)
  have H0 := Lib.hid hE
  have en : numF s p = (four s (p + 2), (p : Int) + 6) := if_pos ⟨h1, h2, by omega⟩
  rw [en] at HN
  have hb := four_bd s (p + 2)
  have hroom := four_room (s := s) (p := p + 2) (by omega)
  have e : uF s (p + 1) = (four s (p + 2), (p : Int) + 6) := by
    unfold uF
    rw [show p + 1 + 1 = p + 2 from rfl, if_neg (by omega), if_neg (by omega), if_pos (by omega)]
    rfl
  rw [e]
  have HR := Lib.hid (fun w => rune.impl_ok (four s (p + 2)) w)
  rw [(rune.okR_iff _).2 ⟨h3, by omega, h4⟩] at HR
  generalize four s (p + 2) = n at *
  clear e en hE h4
  go_enter Tryd.func121, Tryd.ntmps121
  go_wp2_with fail
  refine (HN.out _ (by rfl) _ H0.out).mono ?_
  rintro e w1 ⟨rfl, hb1⟩
  go_wp2_with fail
  refine (HR.out _).mono ?_
  rintro e w2 ⟨rfl, rfl⟩
  go_wp2_with fail
  go_ret2
  exact ⟨rfl, hb1⟩
set_option maxHeartbeats 4000000 in
set_option maxRecDepth 100000 in
theorem uni_low (s : ByteArray) (p : Nat) (w : World) (hs : s.size ≤ 1048576) (hp : p + 1 < s.size) (h1 : at_ s p = 92) (h2 : at_ s (p + 1) = 117) (hE : ErrVar w "strconv.ErrSyntax") (h3 : 56320 ≤ four s (p + 2)) (h4 : four s (p + 2) ≤ 57343) :
    Calls Tryd.prog 121 #[.string s, .int .i64 p] w fun e w' => e = .returned (.tuple #[.int .i64 (uF s (p + 1)).1, .int .i64 (uF s (p + 1)).2]) ∧ Below w.heap.size w w' := by
  have HN := Lib.hid (fun a ha w hE => num_anyI s a p ha w hs (by omega) hE)
  have H0 := Lib.hid hE
  have en : numF s p = (four s (p + 2), (p : Int) + 6) := if_pos ⟨h1, h2, by omega⟩
  rw [en] at HN
  have hb := four_bd s (p + 2)
  have hroom := four_room (s := s) (p := p + 2) (by omega)
  have e : uF s (p + 1) = (0, -1) := by
    unfold uF
    rw [show p + 1 + 1 = p + 2 from rfl, if_neg (by omega), if_pos ⟨h3, h4⟩]
  rw [e]
  have HR := Lib.hid (fun w => rune.impl_ok (four s (p + 2)) w)
  rw [rune.okR_no (by omega)] at HR
  have HM := Lib.hid (fun a ha w hE => num_anyI s a (p + 6) ha w hs (by omega) hE)
  have HS := Lib.hid (fun w => second_any (four s (p + 2)) w (by omega) (by omega))
  rw [decide_eq_true ⟨h3, h4⟩] at HS
  generalize four s (p + 2) = n at *
  generalize (numF s (p + 6)).1 = m1 at HM
  generalize (numF s (p + 6)).2 = m2 at HM
  clear e en hE
  go_enter Tryd.func121, Tryd.ntmps121
  go_wp2_with fail
  refine (HN.out _ (by rfl) _ H0.out).mono ?_
  rintro e w1 ⟨rfl, hb1⟩
  go_wp2_with fail
  refine (HR.out _).mono ?_
  rintro e w2 ⟨rfl, rfl⟩
  go_wp2_with fail
  refine (HM.out _ (by omega) _ (H0.out.below hb1)).mono ?_
  rintro e w2 ⟨rfl, hb2⟩
  have hb3 := hb1.trans (hb2.mono hb1.size)
  go_wp2_with fail
  refine (HS.out _).mono ?_
  rintro e w3 ⟨rfl, rfl⟩
  go_wp2_with fail
  go_ret2
  exact ⟨rfl, hb3⟩
set_option maxHeartbeats 4000000 in
set_option maxRecDepth 100000 in
theorem uni_half (s : ByteArray) (p : Nat) (w : World) (hs : s.size ≤ 1048576) (hp : p + 1 < s.size) (h1 : at_ s p = 92) (h2 : at_ s (p + 1) = 117) (hE : ErrVar w "strconv.ErrSyntax") (h3 : 55296 ≤ four s (p + 2)) (h4 : four s (p + 2) ≤ 56319) (h5 : ¬ (at_ s (p + 6) = 92 ∧ at_ s (p + 7) = 117 ∧ 56320 ≤ four s (p + 8) ∧ four s (p + 8) ≤ 57343)) :
    Calls Tryd.prog 121 #[.string s, .int .i64 p] w fun e w' => e = .returned (.tuple #[.int .i64 (uF s (p + 1)).1, .int .i64 (uF s (p + 1)).2]) ∧ Below w.heap.size w w' := by
  have HN := Lib.hid (fun a ha w hE => num_anyI s a p ha w hs (by omega) hE)
  have H0 := Lib.hid hE
  have en : numF s p = (four s (p + 2), (p : Int) + 6) := if_pos ⟨h1, h2, by omega⟩
  rw [en] at HN
  have hb := four_bd s (p + 2)
  have hroom := four_room (s := s) (p := p + 2) (by omega)
  have e : uF s (p + 1) = (0, -1) := by
    unfold uF
    rw [show p + 1 + 1 = p + 2 from rfl, if_neg (by omega), if_neg (by omega), if_neg (by omega), if_neg (fun hc => h5 hc.2)]
  rw [e]
  have HR := Lib.hid (fun w => rune.impl_ok (four s (p + 2)) w)
  rw [rune.okR_no (by omega)] at HR
  have HM := Lib.hid (fun a ha w hE => num_anyI s a (p + 6) ha w hs (by omega) hE)
  have HS := Lib.hid (fun w => second_any (four s (p + 2)) w (by omega) (by omega))
  rw [decide_eq_false (by omega)] at HS
  have hm : 0 ≤ (numF s (p + 6)).1 ∧ (numF s (p + 6)).1 ≤ 65535 ∧ ¬ (56320 ≤ (numF s (p + 6)).1 ∧ (numF s (p + 6)).1 ≤ 57343) := by
    unfold numF
    rw [show p + 6 + 1 = p + 7 from rfl, show p + 6 + 2 = p + 8 from rfl]
    split
    · rename_i hc
      have := four_bd s (p + 8)
      exact ⟨hc.2.2, this.2, fun hd => h5 ⟨hc.1, hc.2.1, hd⟩⟩
    · exact ⟨by decide, by decide, by decide⟩
  have HS2 := Lib.hid (fun w => second_any (numF s (p + 6)).1 w hm.1 hm.2.1)
  rw [decide_eq_false hm.2.2] at HS2
  generalize four s (p + 2) = n at *
  generalize (numF s (p + 6)).1 = m1 at HM HS2
  generalize (numF s (p + 6)).2 = m2 at HM
  clear e en hE h5 hm
  go_enter Tryd.func121, Tryd.ntmps121
  go_wp2_with fail
  refine (HN.out _ (by rfl) _ H0.out).mono ?_
  rintro e w1 ⟨rfl, hb1⟩
  go_wp2_with fail
  refine (HR.out _).mono ?_
  rintro e w2 ⟨rfl, rfl⟩
  go_wp2_with fail
  refine (HM.out _ (by omega) _ (H0.out.below hb1)).mono ?_
  rintro e w2 ⟨rfl, hb2⟩
  have hb3 := hb1.trans (hb2.mono hb1.size)
  go_wp2_with fail
  refine (HS.out _).mono ?_
  rintro e w3 ⟨rfl, rfl⟩
  go_wp2_with fail
  refine (HS2.out _).mono ?_
  rintro e w3 ⟨rfl, rfl⟩
  go_wp2_with fail
  go_ret2
  exact ⟨rfl, hb3⟩
set_option maxHeartbeats 4000000 in
set_option maxRecDepth 100000 in
theorem uni_two (s : ByteArray) (p : Nat) (w : World) (hs : s.size ≤ 1048576) (hp : p + 1 < s.size) (h1 : at_ s p = 92) (h2 : at_ s (p + 1) = 117) (hE : ErrVar w "strconv.ErrSyntax") (h3 : 55296 ≤ four s (p + 2)) (h4 : four s (p + 2) ≤ 56319) (h5 : at_ s (p + 6) = 92) (h6 : at_ s (p + 7) = 117) (h7 : 56320 ≤ four s (p + 8)) (h8 : four s (p + 8) ≤ 57343) :
    Calls Tryd.prog 121 #[.string s, .int .i64 p] w fun e w' => e = .returned (.tuple #[.int .i64 (uF s (p + 1)).1, .int .i64 (uF s (p + 1)).2]) ∧ Below w.heap.size w w' := by
  have HN := Lib.hid (fun a ha w hE => num_anyI s a p ha w hs (by omega) hE)
  have H0 := Lib.hid hE
  have en : numF s p = (four s (p + 2), (p : Int) + 6) := if_pos ⟨h1, h2, by omega⟩
  rw [en] at HN
  have hb := four_bd s (p + 2)
  have hroom := four_room (s := s) (p := p + 2) (by omega)
  have hr8 := four_room (s := s) (p := p + 8) (by omega)
  have e : uF s (p + 1) = (65536 + 1024 * (four s (p + 2) - 55296) + four s (p + 8) - 56320, (p : Int) + 12) := by
    unfold uF
    rw [show p + 1 + 1 = p + 2 from rfl, show p + 1 + 5 = p + 6 from rfl, show p + 1 + 6 = p + 7 from rfl, show p + 1 + 7 = p + 8 from rfl, if_neg (by omega), if_neg (by omega), if_neg (by omega), if_pos ⟨by omega, h5, h6, h7, h8⟩]
    rfl
  rw [e]
  have HR := Lib.hid (fun w => rune.impl_ok (four s (p + 2)) w)
  rw [rune.okR_no (by omega)] at HR
  have HM := Lib.hid (fun a ha w hE => num_anyI s a (p + 6) ha w hs (by omega) hE)
  have HS := Lib.hid (fun w => second_any (four s (p + 2)) w (by omega) (by omega))
  rw [decide_eq_false (by omega)] at HS
  have em : numF s (p + 6) = (four s (p + 8), (p : Int) + 12) := if_pos ⟨h5, h6, by rw [show p + 6 + 2 = p + 8 from rfl]; omega⟩
  have HS2 := Lib.hid (fun w => second_any (four s (p + 8)) w (by omega) (by omega))
  rw [decide_eq_true ⟨h7, h8⟩] at HS2
  rw [em] at HM
  generalize four s (p + 2) = n at *
  generalize four s (p + 8) = m at *
  clear e en em hE
  go_enter Tryd.func121, Tryd.ntmps121
  go_wp2_with fail
  refine (HN.out _ (by rfl) _ H0.out).mono ?_
  rintro e w1 ⟨rfl, hb1⟩
  go_wp2_with fail
  refine (HR.out _).mono ?_
  rintro e w2 ⟨rfl, rfl⟩
  go_wp2_with fail
  refine (HM.out _ (by omega) _ (H0.out.below hb1)).mono ?_
  rintro e w2 ⟨rfl, hb2⟩
  have hb3 := hb1.trans (hb2.mono hb1.size)
  go_wp2_with fail
  refine (HS.out _).mono ?_
  rintro e w3 ⟨rfl, rfl⟩
  go_wp2_with fail
  refine (HS2.out _).mono ?_
  rintro e w3 ⟨rfl, rfl⟩
  go_wp2_with fail
  go_ret2
  exact ⟨rfl, hb3⟩
theorem uni_any (s : ByteArray) (p : Nat) (w : World) (hs : s.size ≤ 1048576) (hp : p + 1 < s.size) (h1 : at_ s p = 92) (h2 : at_ s (p + 1) = 117) (hE : ErrVar w "strconv.ErrSyntax") :
    Calls Tryd.prog 121 #[.string s, .int .i64 p] w fun e w' => e = .returned (.tuple #[.int .i64 (uF s (p + 1)).1, .int .i64 (uF s (p + 1)).2]) ∧ Below w.heap.size w w' := by
  by_cases c1 : four s (p + 2) < 0
  · exact uni_bad s p w hs hp h1 h2 hE c1
  by_cases c2 : 56320 ≤ four s (p + 2) ∧ four s (p + 2) ≤ 57343
  · exact uni_low s p w hs hp h1 h2 hE c2.1 c2.2
  by_cases c3 : 55296 ≤ four s (p + 2) ∧ four s (p + 2) ≤ 56319
  · by_cases c4 : at_ s (p + 6) = 92 ∧ at_ s (p + 7) = 117 ∧ 56320 ≤ four s (p + 8) ∧ four s (p + 8) ≤ 57343
    · exact uni_two s p w hs hp h1 h2 hE c3.1 c3.2 c4.1 c4.2.1 c4.2.2.1 c4.2.2.2
    · exact uni_half s p w hs hp h1 h2 hE c3.1 c3.2 c4
  · exact uni_one s p w hs hp h1 h2 hE (by omega) (by omega)

/-! letterRune. -/
def idxL (x : Int) : Int := if x = 34 then 0 else if x = 92 then 1 else if x = 98 then 2 else if x = 102 then 3 else if x = 110 then 4 else if x = 114 then 5 else if x = 116 then 6 else -1
theorem indexL_all : ∀ n : Fin 256, Lib.indexByte [34, 92, 98, 102, 110, 114, 116] (UInt8.ofNat n.val) = idxL (n.val : Int) := by decide +kernel
theorem index_let (x : Int) (w : World) (h0 : 0 ≤ x) (h1 : x < 256) :
    Calls Tryd.prog 86 #[.string ⟨#[34, 92, 98, 102, 110, 114, 116]⟩, .int .u8 x] w fun e w' => e = .returned (.int .i64 (idxL x)) ∧ w = w' := by
  refine (Tryd.strings_IndexByte _ x w).mono ?_
  rintro e w' ⟨rfl, rfl⟩
  have h := indexL_all ⟨x.toNat, by omega⟩
  refine ⟨ret_int ?_, rfl⟩
  have hx : ((x.toNat : Nat) : Int) = x := by omega
  simp only [hx] at h
  exact h
theorem escL_plain {s : ByteArray} {p : Nat} {n : Int} (hp : p < s.size) (h : plain (at_ s p) = some n) : escF s p = (n, (p : Int) + 1) := by
  unfold escF
  rw [if_pos hp, h]
  rfl
theorem escL_none {s : ByteArray} {p : Nat} (h : plain (at_ s p) = none) (h2 : at_ s p ≠ 117) : escF s p = (0, -1) := by
  unfold escF
  by_cases hp : p < s.size
  · rw [if_pos hp, h]
    exact if_neg h2
  · rw [if_neg hp]
theorem let_out (s : ByteArray) (p : Nat) (w : World) (hs : s.size ≤ 1048576) (hp : p ≤ s.size) (h : s.size ≤ p) :
    Calls Tryd.prog 122 #[.string s, .int .i64 p] w fun e w' => e = .returned (.tuple #[.int .i64 0, .int .i64 (-1)]) ∧ w = w' := by
  go_enter Tryd.func122, Tryd.ntmps122
  go_wp2_with fail
  go_ret2
  exact ⟨rfl, rfl⟩
theorem let_slash (s : ByteArray) (p : Nat) (w : World) (hs : s.size ≤ 1048576) (hp : p < s.size) (h : at_ s p = 47) :
    Calls Tryd.prog 122 #[.string s, .int .i64 p] w fun e w' => e = .returned (.tuple #[.int .i64 47, .int .i64 ((p : Int) + 1)]) ∧ w = w' := by
  have eat := at_eq s p hp
  rw [h] at eat
  go_enter Tryd.func122, Tryd.ntmps122
  go_wp2_with fail
  go_ret2
  exact ⟨rfl, rfl⟩
theorem let_hit (s : ByteArray) (p : Nat) (w : World) (hs : s.size ≤ 1048576) (hp : p < s.size) (x i v : Int) (hx : at_ s p = x) (h0 : 0 ≤ x) (h1 : x < 256) (h47 : (x == 47) = false) (hi : idxL x = i) (hi0 : 0 ≤ i) (hi1 : i < 7) (hv0 : 0 ≤ v) (hv1 : v < 256) (hb : ∀ h, (((⟨#[34, 92, 8, 12, 10, 13, 9]⟩ : ByteArray)[i.toNat]'h).toNat : Int) = v) :
    Calls Tryd.prog 122 #[.string s, .int .i64 p] w fun e w' => e = .returned (.tuple #[.int .i64 v, .int .i64 ((p : Int) + 1)]) ∧ w = w' := by
  have eat := at_eq s p hp
  rw [hx] at eat
  have HI := Lib.hid (fun w => index_let x w h0 h1)
  rw [hi] at HI
  clear hi
  go_enter Tryd.func122, Tryd.ntmps122
  go_wp2_with fail
  refine (HI.out _).mono ?_
  rintro e w1 ⟨rfl, rfl⟩
  go_wp2_with fail
  go_ret2
  exact ⟨rfl, rfl⟩
theorem let_miss (s : ByteArray) (p : Nat) (w : World) (hs : s.size ≤ 1048576) (hp : p < s.size) (x : Int) (hx : at_ s p = x) (h0 : 0 ≤ x) (h1 : x < 256) (h47 : (x == 47) = false) (hi : idxL x = -1) :
    Calls Tryd.prog 122 #[.string s, .int .i64 p] w fun e w' => e = .returned (.tuple #[.int .i64 0, .int .i64 (-1)]) ∧ w = w' := by
  have eat := at_eq s p hp
  rw [hx] at eat
  have HI := Lib.hid (fun w => index_let x w h0 h1)
  rw [hi] at HI
  clear hi
  go_enter Tryd.func122, Tryd.ntmps122
  go_wp2_with fail
  refine (HI.out _).mono ?_
  rintro e w1 ⟨rfl, rfl⟩
  go_wp2_with fail
  go_ret2
  exact ⟨rfl, rfl⟩
theorem let_any (s : ByteArray) (p : Nat) (w : World) (hs : s.size ≤ 1048576) (hp : p ≤ s.size) (hu : p < s.size → at_ s p ≠ 117) :
    Calls Tryd.prog 122 #[.string s, .int .i64 p] w fun e w' => e = .returned (.tuple #[.int .i64 (escF s p).1, .int .i64 (escF s p).2]) ∧ w = w' := by
  by_cases h : p < s.size
  · have hbd := at_bd s p
    by_cases c : at_ s p = 47
    · rw [escL_plain (n := 47) h (by rw [c]; rfl)]; exact let_slash s p w hs h c
    by_cases h34 : at_ s p = 34
    · rw [escL_plain (n := 34) h (by rw [h34]; rfl)]; exact let_hit s p w hs h 34 0 34 h34 (by decide) (by decide) rfl rfl (by decide) (by decide) (by decide) (by decide) (fun _ => rfl)
    by_cases h92 : at_ s p = 92
    · rw [escL_plain (n := 92) h (by rw [h92]; rfl)]; exact let_hit s p w hs h 92 1 92 h92 (by decide) (by decide) rfl rfl (by decide) (by decide) (by decide) (by decide) (fun _ => rfl)
    by_cases h98 : at_ s p = 98
    · rw [escL_plain (n := 8) h (by rw [h98]; rfl)]; exact let_hit s p w hs h 98 2 8 h98 (by decide) (by decide) rfl rfl (by decide) (by decide) (by decide) (by decide) (fun _ => rfl)
    by_cases h102 : at_ s p = 102
    · rw [escL_plain (n := 12) h (by rw [h102]; rfl)]; exact let_hit s p w hs h 102 3 12 h102 (by decide) (by decide) rfl rfl (by decide) (by decide) (by decide) (by decide) (fun _ => rfl)
    by_cases h110 : at_ s p = 110
    · rw [escL_plain (n := 10) h (by rw [h110]; rfl)]; exact let_hit s p w hs h 110 4 10 h110 (by decide) (by decide) rfl rfl (by decide) (by decide) (by decide) (by decide) (fun _ => rfl)
    by_cases h114 : at_ s p = 114
    · rw [escL_plain (n := 13) h (by rw [h114]; rfl)]; exact let_hit s p w hs h 114 5 13 h114 (by decide) (by decide) rfl rfl (by decide) (by decide) (by decide) (by decide) (fun _ => rfl)
    by_cases h116 : at_ s p = 116
    · rw [escL_plain (n := 9) h (by rw [h116]; rfl)]; exact let_hit s p w hs h 116 6 9 h116 (by decide) (by decide) rfl rfl (by decide) (by decide) (by decide) (by decide) (fun _ => rfl)
    have hn : plain (at_ s p) = none := by unfold plain; rw [if_neg h34, if_neg h92, if_neg c, if_neg h98, if_neg h102, if_neg h110, if_neg h114, if_neg h116]
    have hi : idxL (at_ s p) = -1 := by unfold idxL; rw [if_neg h34, if_neg h92, if_neg h98, if_neg h102, if_neg h110, if_neg h114, if_neg h116]
    rw [escL_none hn (hu h)]
    exact let_miss s p w hs h _ rfl hbd.1 hbd.2 (by simpa using c) hi
  · have e : escF s p = (0, -1) := by unfold escF; rw [if_neg h]
    rw [e]
    exact let_out s p w hs hp (by omega)
theorem let_anyI (s : ByteArray) (a : Int) (p : Nat) (ha : a = (p : Int)) (w : World) (hs : s.size ≤ 1048576) (hp : p ≤ s.size) (hu : p < s.size → at_ s p ≠ 117) :
    Calls Tryd.prog 122 #[.string s, .int .i64 a] w fun e w' => e = .returned (.tuple #[.int .i64 (escF s p).1, .int .i64 (escF s p).2]) ∧ w = w' := by
  subst ha
  exact let_any s p w hs hp hu

/-! quotedRune. -/
theorem qr_any (s : ByteArray) (p : Nat) (w : World) (hs : s.size ≤ 1048576) (hp : p ≤ s.size) (hT : rune.Tabs w) (hE : ErrVar w "strconv.ErrSyntax") :
    Calls Tryd.prog 105 #[.string s, .int .i64 p] w fun e w' => e = .returned (.tuple #[.int .i64 (stepF s p).1, .int .i64 (stepF s p).2]) ∧ Below w.heap.size w w' := by
  have H1 := Lib.hid (fun w => pre1 s p 92 w)
  have H2 := Lib.hid (fun w => pre2 s p 92 117 w)
  by_cases c2 : p + 1 < s.size ∧ at_ s p = 92 ∧ at_ s (p + 1) = 117
  · have HU := Lib.hid (uni_any s p w hs c2.1 c2.2.1 c2.2.2 hE)
    have e : stepF s p = uF s (p + 1) := by
      unfold stepF escF
      rw [if_pos ⟨by omega, c2.2.1⟩, if_pos c2.1, c2.2.2]
      rfl
    rw [e]
    have ed : decide (p + 1 < s.size ∧ at_ s p = (((92 : UInt8).toNat : Nat) : Int) ∧ at_ s (p + 1) = (((117 : UInt8).toNat : Nat) : Int)) = true := decide_eq_true c2
    simp only [ed] at H2
    clear e hT hE H1 c2 ed
    generalize (uF s (p + 1)).1 = x at HU ⊢
    generalize (uF s (p + 1)).2 = y at HU ⊢
    go_enter Tryd.func105, Tryd.ntmps105
    go_wp2_with fail
    refine (H2.out _).mono ?_
    rintro e w1 ⟨rfl, rfl⟩
    go_wp2_with fail
    refine HU.out.mono ?_
    rintro e w1 ⟨rfl, hb⟩
    go_wp2_with fail
    go_ret2
    exact ⟨rfl, hb⟩
  have ed : decide (p + 1 < s.size ∧ at_ s p = (((92 : UInt8).toNat : Nat) : Int) ∧ at_ s (p + 1) = (((117 : UInt8).toNat : Nat) : Int)) = false := decide_eq_false c2
  simp only [ed] at H2
  by_cases c1 : p < s.size ∧ at_ s p = 92
  · have HL := Lib.hid (fun a ha w => let_anyI s a (p + 1) ha w hs (by omega) (fun hc hd => c2 ⟨hc, c1.2, hd⟩))
    have e : stepF s p = escF s (p + 1) := by unfold stepF; rw [if_pos c1]
    rw [e]
    have ed1 : decide (p < s.size ∧ at_ s p = (((92 : UInt8).toNat : Nat) : Int)) = true := decide_eq_true c1
    simp only [ed1] at H1
    clear e hT hE c1 c2 ed ed1
    generalize (escF s (p + 1)).1 = x at HL ⊢
    generalize (escF s (p + 1)).2 = y at HL ⊢
    go_enter Tryd.func105, Tryd.ntmps105
    go_wp2_with fail
    refine (H2.out _).mono ?_
    rintro e w1 ⟨rfl, rfl⟩
    go_wp2_with fail
    refine (H1.out _).mono ?_
    rintro e w1 ⟨rfl, rfl⟩
    go_wp2_with fail
    refine (HL.out _ (by omega) _).mono ?_
    rintro e w1 ⟨rfl, rfl⟩
    go_wp2_with fail
    go_ret2
    exact ⟨rfl, Below.refl _ _⟩
  have ed1 : decide (p < s.size ∧ at_ s p = (((92 : UInt8).toNat : Nat) : Int)) = false := decide_eq_false c1
  simp only [ed1] at H1
  have HA := Lib.hid (rune.impl_at s p w (by unfold maxLen; omega) hT)
  have e : stepF s p = runeF s p := by unfold stepF; rw [if_neg c1]
  rw [e]
  unfold runeF
  clear e hT hE c1 c2 ed ed1
  generalize rune.atF s (p : Int) = r at HA ⊢
  obtain ⟨x, y⟩ := r
  by_cases hx : x < 32
  · rw [if_pos hx]
    go_enter Tryd.func105, Tryd.ntmps105
    go_wp2_with fail
    refine (H2.out _).mono ?_
    rintro e w1 ⟨rfl, rfl⟩
    go_wp2_with fail
    refine (H1.out _).mono ?_
    rintro e w1 ⟨rfl, rfl⟩
    go_wp2_with fail
    refine HA.out.mono ?_
    rintro e w1 ⟨rfl, hb⟩
    go_wp2_with fail
    go_ret2
    exact ⟨rfl, hb⟩
  · rw [if_neg hx]
    go_enter Tryd.func105, Tryd.ntmps105
    go_wp2_with fail
    refine (H2.out _).mono ?_
    rintro e w1 ⟨rfl, rfl⟩
    go_wp2_with fail
    refine (H1.out _).mono ?_
    rintro e w1 ⟨rfl, rfl⟩
    go_wp2_with fail
    refine HA.out.mono ?_
    rintro e w1 ⟨rfl, hb⟩
    go_wp2_with fail
    go_ret2
    exact ⟨rfl, hb⟩
end Go.Proofs.YtnaeanhcmpmojaaDoor.readq
