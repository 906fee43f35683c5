/- Merged: QuoteBack KeyBack SignM WholeBack SayM TokM ScalarBack TellM InlineBack ScGood. -/
import Derived.Test.YtbfkkaafkinpmaaGreatDoorGSc
import Derived.Test.YtbfkkaafkinpmaaGreatDoorGLine
import Derived.Test.YtbfkkaafkinpmaaGreatDoorGTree
import Derived.Lib.ItoaNum
namespace Go.Proofs.YtbfkkaafkinpmaaGreatDoor.quote
open Go Go.RowKit
set_option linter.unusedVariables false

theorem at_list {s : ByteArray} {p : Nat} {b : UInt8} {r : List UInt8} (h : s.data.toList.drop p = b :: r) : p < s.size ∧ at_ s p = (b.toNat : Int) ∧ s.data.toList.drop (p + 1) = r := by
  have e : s.data.toList.length = s.size := by simp
  have hl : (s.data.toList.drop p).length = r.length + 1 := by rw [h]; simp
  rw [List.length_drop, e] at hl
  refine ⟨by omega, ?_, ?_⟩
  · unfold at_
    have h2 : (s.data.toList.drop p).getD 0 0 = s.data.toList.getD p 0 := by simp [List.getD_eq_getElem?_getD, List.getElem?_drop]
    rw [← h2, h]
    rfl
  · rw [← List.drop_drop, h]
    rfl
theorem is_of_list {s : ByteArray} {p n : Nat} {r : List UInt8} (hv : rune.valid n) (h : s.data.toList.drop p = rune.encB n ++ r) : rune.Is s p n := by
  have e : s.data.toList.length = s.size := by simp
  have hl : (s.data.toList.drop p).length = (rune.enc n).length + r.length := by rw [h, List.length_append, rune.encB_length]
  have hpos := rune.enc_pos n
  rw [List.length_drop, e] at hl
  refine ⟨hv, by omega, fun i hi => ?_⟩
  have hlt := rune.enc_lt hv _ (List.getElem_mem hi)
  unfold at_
  have h2 : (s.data.toList.drop p).getD i 0 = s.data.toList.getD (p + i) 0 := by simp [List.getD_eq_getElem?_getD, List.getElem?_drop]
  rw [← h2, h, List.getD_eq_getElem?_getD, List.getElem?_append_left (by rw [rune.encB_length]; exact hi)]
  unfold rune.encB
  rw [List.getElem?_map, List.getElem?_eq_getElem hi, List.getD_eq_getElem?_getD, List.getElem?_eq_getElem hi]
  simp
  omega
/-- One code point's quotes are read back as it. -/
theorem step_back {s : ByteArray} {p n : Nat} {r : List UInt8} (hv : rune.valid n) (h : s.data.toList.drop p = qN n ++ r) :
    p < s.size ∧ at_ s p ≠ 34 ∧ readq.stepF s p = ((n : Int), ((p + (qN n).length : Nat) : Int)) ∧ 0 < (qN n).length := by
  cases he : esc n with
  | none =>
    have hq : qN n = rune.encB n := by unfold qN; rw [he]; rfl
    rw [hq] at h ⊢
    have hi := is_of_list hv h
    have hat := rune.at_yes hi
    have hpos := rune.enc_pos n
    have hne : n ≠ 34 ∧ n ≠ 92 ∧ 32 ≤ n := by
      refine ⟨fun e => ?_, fun e => ?_, ?_⟩
      · rw [e] at he; cases he
      · rw [e] at he; cases he
      · rcases Nat.lt_or_ge n 32 with c | c
        · unfold esc at he
          repeat' split at he
          all_goals first | (cases he; done) | omega
        · exact c
    have hb := rune.is_cases hi
    rw [rune.encB_length]
    refine ⟨by have := hi.2.1; omega, ?_, ?_, hpos⟩
    · rcases hb with hb | hb | hb | hb <;> omega
    · unfold readq.stepF
      rw [if_neg (by rcases hb with hb | hb | hb | hb <;> omega)]
      unfold readq.runeF
      rw [hat, if_neg (by simp only; omega)]
  | some l =>
    have hq : qN n = l := by unfold qN; rw [he]; rfl
    rw [hq] at h ⊢
    unfold esc at he
    -- the letters
    have two : ∀ c : UInt8, ∀ m : Nat, readq.plain (c.toNat : Int) = some (m : Int) → s.data.toList.drop p = 92 :: c :: r → p < s.size ∧ at_ s p ≠ 34 ∧ readq.stepF s p = ((m : Int), ((p + 2 : Nat) : Int)) := by
      intro c m hc hd
      obtain ⟨a1, a2, a3⟩ := at_list hd
      obtain ⟨b1, b2, _⟩ := at_list a3
      refine ⟨a1, by rw [a2]; decide, ?_⟩
      unfold readq.stepF readq.escF
      rw [if_pos ⟨a1, by rw [a2]; rfl⟩, if_pos b1, b2, hc]
    split at he
    · rename_i hn; subst hn; injection he with he; subst he
      exact ⟨(two 34 34 rfl h).1, (two 34 34 rfl h).2.1, (two 34 34 rfl h).2.2, by decide⟩
    split at he
    · rename_i hn; subst hn; injection he with he; subst he
      exact ⟨(two 92 92 rfl h).1, (two 92 92 rfl h).2.1, (two 92 92 rfl h).2.2, by decide⟩
    split at he
    · rename_i hn; subst hn; injection he with he; subst he
      exact ⟨(two 98 8 rfl h).1, (two 98 8 rfl h).2.1, (two 98 8 rfl h).2.2, by decide⟩
    split at he
    · rename_i hn; subst hn; injection he with he; subst he
      exact ⟨(two 102 12 rfl h).1, (two 102 12 rfl h).2.1, (two 102 12 rfl h).2.2, by decide⟩
    split at he
    · rename_i hn; subst hn; injection he with he; subst he
      exact ⟨(two 110 10 rfl h).1, (two 110 10 rfl h).2.1, (two 110 10 rfl h).2.2, by decide⟩
    split at he
    · rename_i hn; subst hn; injection he with he; subst he
      exact ⟨(two 114 13 rfl h).1, (two 114 13 rfl h).2.1, (two 114 13 rfl h).2.2, by decide⟩
    split at he
    · rename_i hn; subst hn; injection he with he; subst he
      exact ⟨(two 116 9 rfl h).1, (two 116 9 rfl h).2.1, (two 116 9 rfl h).2.2, by decide⟩
    split at he
    · rename_i hn
      injection he with he; subst he
      obtain ⟨a1, a2, a3⟩ := at_list h
      obtain ⟨b1, b2, b3⟩ := at_list a3
      obtain ⟨c1, c2, c3⟩ := at_list b3
      obtain ⟨d1, d2, d3⟩ := at_list c3
      obtain ⟨e1, e2, e3⟩ := at_list d3
      obtain ⟨f1, f2, f3⟩ := at_list e3
      have hf : ∀ k : Nat, k < 16 → readq.hexv ((fg k).toNat : Int) = k := by
        intro k hk
        have h := (by decide : ∀ k : Fin 16, readq.hexv ((fg k.val).toNat : Int) = (k.val : Int)) ⟨k, hk⟩
        exact h
      have hfour : readq.four s (p + 2) = (n : Int) := by
        have g1 := hf (n / 16) (by omega)
        have g2 := hf (n % 16) (by omega)
        have z0 : readq.hexv (at_ s (p + 2 + 0)) = 0 := by show readq.hexv (at_ s (p + 1 + 1)) = 0; rw [c2]; rfl
        have z1 : readq.hexv (at_ s (p + 2 + 1)) = 0 := by show readq.hexv (at_ s (p + 1 + 1 + 1)) = 0; rw [d2]; rfl
        have z2 : readq.hexv (at_ s (p + 2 + 2)) = ((n / 16 : Nat) : Int) := by show readq.hexv (at_ s (p + 1 + 1 + 1 + 1)) = _; rw [e2]; exact g1
        have z3 : readq.hexv (at_ s (p + 2 + 3)) = ((n % 16 : Nat) : Int) := by show readq.hexv (at_ s (p + 1 + 1 + 1 + 1 + 1)) = _; rw [f2]; exact g2
        have hd : readq.digs s (p + 2) 4 := by
          intro j hj
          match j, hj with
          | 0, _ => omega
          | 1, _ => omega
          | 2, _ => omega
          | 3, _ => omega
        rw [(readq.four_yes (by omega) hd).1]
        show 16 * (16 * (16 * (16 * 0 + readq.hexv (at_ s (p + 2 + 0))) + readq.hexv (at_ s (p + 2 + 1))) + readq.hexv (at_ s (p + 2 + 2))) + readq.hexv (at_ s (p + 2 + 3)) = _
        rw [z0, z1, z2, z3]
        omega
      refine ⟨a1, by rw [a2]; decide, ?_, by simp⟩
      unfold readq.stepF readq.escF
      rw [if_pos ⟨a1, by rw [a2]; rfl⟩, if_pos b1, b2]
      show readq.uF s (p + 1) = _
      unfold readq.uF
      rw [show p + 1 + 1 = p + 2 from rfl, hfour, if_neg (by omega), if_neg (by omega), if_pos (by omega)]
      rfl
    · cases he
theorem read_list {s : ByteArray} : ∀ (l : List Int), (∀ x ∈ l, ∃ n : Nat, x = (n : Int) ∧ rune.valid n) → ∀ (p : Nat) (acc r : List UInt8), s.data.toList.drop p = byR l ++ r → readq.readQ s p acc = readq.readQ s (p + (byR l).length) (acc ++ rune.joinL l)
  | [], _, p, acc, r, h => by
    show _ = readq.readQ s (p + 0) (acc ++ [])
    rw [Nat.add_zero, List.append_nil]
  | x :: l, hl, p, acc, r, h => by
    obtain ⟨n, rfl, hv⟩ := hl x (List.mem_cons_self ..)
    have hb : byR ((n : Int) :: l) = qN n ++ byR l := by simp [byR]
    rw [hb, List.append_assoc] at h
    obtain ⟨h1, h2, h3, h4⟩ := step_back hv h
    have hd : s.data.toList.drop (p + (qN n).length) = byR l ++ r := by rw [← List.drop_drop, h, List.drop_left]
    have ih := read_list l (fun y hy => hl y (List.mem_cons_of_mem _ hy)) (p + (qN n).length) (acc ++ (rune.textF (n : Int)).data.toList) r hd
    rw [readq.read_go h1 h2 h3 (by omega), ih, hb, rune.joinL_cons, List.length_append, List.append_assoc, Nat.add_assoc]
theorem wrap_size (b : List UInt8) : (wrap b).size = b.length + 2 := by
  show ((34 :: b) ++ [34]).toArray.size = _
  rw [List.size_toArray]
  simp
theorem wrap_list (b : List UInt8) : (wrap b).data.toList = 34 :: (b ++ [34]) := rfl
/-- The quoted form behind one byte and ahead of another. -/
theorem quoted_back {s : ByteArray} {l : List Int} (h : rune.runesF s = some l) : readq.readF (⟨#[120]⟩ ++ wrap (byB s.data.toList) ++ ⟨#[121]⟩) 1 = (s, 1 + ((wrap (byB s.data.toList)).size : Int)) := by
  have hv : ∀ x ∈ l, ∃ n : Nat, x = (n : Int) ∧ rune.valid n := fun x hx => cut_valid h x hx
  rw [runes_q h]
  obtain ⟨t, ht⟩ : ∃ t : ByteArray, t = ⟨#[120]⟩ ++ wrap (byR l) ++ ⟨#[121]⟩ := ⟨_, rfl⟩
  have hl : t.data.toList = 120 :: 34 :: (byR l ++ (34 :: [121])) := by rw [ht]; simp [wrap_list]
  rw [← ht]
  have h1 := at_list (s := t) (p := 1) (b := 34) (r := byR l ++ (34 :: [121])) (by rw [hl]; rfl)
  have h2 := read_list l hv 2 [] (34 :: [121]) h1.2.2
  have h3 := at_list (s := t) (p := 2 + (byR l).length) (b := 34) (r := [121]) (by rw [← List.drop_drop, h1.2.2, List.drop_left])
  have hr := readq.readF_yes (s := t) (a := 1) h1.1 h1.2.1
  rw [show ((1 : Nat) : Int) = 1 from rfl] at hr
  rw [hr, readq.in_some (h2.trans (readq.read_close h3.1 h3.2.1)), wrap_size]
  refine Prod.ext ?_ ?_
  · show (⟨([] ++ rune.joinL l).toArray⟩ : ByteArray) = s
    rw [List.nil_append]
    exact rune.runes_join h
  · show ((2 + (byR l).length + 1 : Nat) : Int) = 1 + (((byR l).length + 2 : Nat) : Int)
    omega
/-- Without the last byte nothing is read. -/
theorem quoted_open {s : ByteArray} {l : List Int} (h : rune.runesF s = some l) : (readq.readF ((wrap (byB s.data.toList)).extract 0 ((wrap (byB s.data.toList)).size - 1)) 0).2 = -1 := by
  have hv : ∀ x ∈ l, ∃ n : Nat, x = (n : Int) ∧ rune.valid n := fun x hx => cut_valid h x hx
  rw [runes_q h, wrap_size]
  obtain ⟨t, ht⟩ : ∃ t : ByteArray, t = (wrap (byR l)).extract 0 ((byR l).length + 2 - 1) := ⟨_, rfl⟩
  have hl : t.data.toList = 34 :: (byR l ++ []) := by
    rw [ht, ByteArray.data_extract, Array.toList_extract, List.extract_eq_take_drop, wrap_list, List.drop_zero, List.append_nil]
    show List.take ((byR l).length + 1) (34 :: (byR l ++ [34])) = _
    rw [List.take_succ_cons, List.take_left]
  rw [← ht]
  have h1 := at_list (s := t) (p := 0) (b := 34) (r := byR l ++ []) (by rw [hl]; rfl)
  have h2 := read_list l hv 1 [] [] h1.2.2
  have hr := readq.readF_yes (s := t) (a := 0) h1.1 h1.2.1
  rw [show ((0 : Nat) : Int) = 0 from rfl] at hr
  have hz : t.size = 1 + (byR l).length := by
    have e : t.data.toList.length = t.size := by simp
    rw [← e, hl]
    simp
    omega
  rw [hr, readq.in_none (h2.trans (readq.read_end (by omega)))]
theorem one_text : quotedF ⟨#[97]⟩ = ⟨#[34, 97, 34]⟩ := by
  have h := rune.runes_text [97]
  have hj : rune.joinF [97] = ⟨#[97]⟩ := by decide
  have hf : [(97 : Int)].filter (fun n => rune.okR n) = [97] := by decide
  rw [hj, hf] at h
  rw [quoted_yes h]
  decide
theorem pair_text : readq.readF ⟨#[34, 92, 117, 100, 56, 51, 100, 92, 117, 100, 101, 48, 48, 34]⟩ 0 = (⟨#[240, 159, 152, 128]⟩, 14) := by
  obtain ⟨t, ht⟩ : ∃ t : ByteArray, t = ⟨#[34, 92, 117, 100, 56, 51, 100, 92, 117, 100, 101, 48, 48, 34]⟩ := ⟨_, rfl⟩
  have hz : t.size = 14 := by rw [ht]; rfl
  have a0 : at_ t 0 = 34 := by rw [ht]; decide
  have a1 : at_ t 1 = 92 := by rw [ht]; decide
  have a2 : at_ t 2 = 117 := by rw [ht]; decide
  have a13 : at_ t 13 = 34 := by rw [ht]; decide
  have hu : readq.uF t 2 = (128512, 13) := by rw [ht]; decide +kernel
  have hs : readq.stepF t 1 = (128512, ((13 : Nat) : Int)) := by
    unfold readq.stepF readq.escF
    rw [if_pos ⟨by omega, a1⟩, if_pos (by omega), a2]
    exact hu
  have h1 := readq.read_go (l := []) (by omega) (by rw [a1]; decide) hs (by omega)
  have h2 := readq.read_close (s := t) (p := 13) (l := [] ++ (rune.textF 128512).data.toList) (by omega) a13
  have hr := readq.readF_yes (s := t) (a := 0) (by omega) a0
  rw [show ((0 : Nat) : Int) = 0 from rfl] at hr
  rw [← ht, hr, readq.in_some (h1.trans h2)]
  have htx : rune.textF 128512 = ⟨#[240, 159, 152, 128]⟩ := by
    refine Eq.trans (rune.text_yes (n := 128512) (by decide)) ?_
    decide
  rw [htx]
  rfl
theorem half_text : (readq.readF ⟨#[34, 92, 117, 100, 56, 51, 100, 34]⟩ 0).2 = -1 := by
  obtain ⟨t, ht⟩ : ∃ t : ByteArray, t = ⟨#[34, 92, 117, 100, 56, 51, 100, 34]⟩ := ⟨_, rfl⟩
  have hz : t.size = 8 := by rw [ht]; rfl
  have a0 : at_ t 0 = 34 := by rw [ht]; decide
  have a1 : at_ t 1 = 92 := by rw [ht]; decide
  have a2 : at_ t 2 = 117 := by rw [ht]; decide
  have hu : readq.uF t 2 = (0, -1) := by rw [ht]; decide +kernel
  have hs : readq.stepF t 1 = (0, -1) := by
    unfold readq.stepF readq.escF
    rw [if_pos ⟨by omega, a1⟩, if_pos (by omega), a2]
    exact hu
  have h1 := readq.read_bad (s := t) (p := 1) (l := []) (.inl (by rw [a1]; decide)) (by rw [hs]; decide)
  have hr := readq.readF_yes (s := t) (a := 0) (by omega) a0
  rw [show ((0 : Nat) : Int) = 0 from rfl] at hr
  rw [← ht, hr, readq.in_none h1]
end Go.Proofs.YtbfkkaafkinpmaaGreatDoor.quote
namespace Go.Proofs.YtbfkkaafkinpmaaGreatDoor.line
open Go.ChangeShapes Go.WideShapes Go.ChangeAt Go.RowKit
set_option linter.unusedVariables false

theorem at_left {s a : ByteArray} {b : List UInt8} (h : s.data.toList = a.data.toList ++ b) {k : Nat} (hk : k < a.size) : at_ s k = at_ a k := by
  unfold at_
  rw [h, List.getD_eq_getElem?_getD, List.getElem?_append_left (by rw [len_list]; exact hk), List.getD_eq_getElem?_getD]
theorem at_right {s a : ByteArray} {b : List UInt8} (h : s.data.toList = a.data.toList ++ b) (j : Nat) : at_ s (a.size + j) = ((b.getD j 0).toNat : Int) := by
  unfold at_
  rw [h, List.getD_eq_getElem?_getD, List.getElem?_append_right (by rw [len_list]; omega), len_list, Nat.add_sub_cancel_left, List.getD_eq_getElem?_getD]
theorem size_app {s a : ByteArray} {b : List UInt8} (h : s.data.toList = a.data.toList ++ b) : s.size = a.size + b.length := by
  rw [← len_list, h, List.length_append, len_list]
theorem ex_left {s a : ByteArray} {b : List UInt8} (h : s.data.toList = a.data.toList ++ b) : s.extract 0 a.size = a := by
  have h2 : (s.extract 0 a.size).data.toList = a.data.toList := by
    rw [ex0_list, h, ← len_list a]
    exact List.take_left' rfl
  exact ByteArray.ext (Array.ext' h2)
theorem ex_list (s : ByteArray) (a : Nat) : (s.extract a s.size).data.toList = s.data.toList.drop a := by
  rw [ByteArray.data_extract, Array.toList_extract, List.extract_eq_take_drop]
  apply List.take_of_length_le
  simp
theorem ba_ext {a b : ByteArray} (h : a.data.toList = b.data.toList) : a = b := ByteArray.ext (Array.ext' h)
/-- A text that does not begin with a space. -/
theorem trim_none {t : ByteArray} (h : at_ t 0 ≠ 32) : trimL t = t := by
  have : ind t = 0 := ind_end (Nat.zero_le _) (.inr h)
  unfold trimL
  rw [this]
  exact ex_all t
/-- The line's tail: nothing, or a space and a text that does not begin with one. -/
def Tail (b : List UInt8) (r : ByteArray) : Prop := (b = [58] ∧ r = ⟨#[]⟩) ∨ (b = 58 :: 32 :: r.data.toList ∧ at_ r 0 ≠ 32)
theorem tail_at {b : List UInt8} {r : ByteArray} (h : Tail b r) : b.getD 0 0 = 58 ∧ 0 < b.length ∧ (b.length = 1 ∨ b.getD 1 0 = 32) := by
  rcases h with ⟨rfl, _⟩ | ⟨rfl, _⟩
  · exact ⟨rfl, by decide, .inl rfl⟩
  · exact ⟨rfl, by simp, .inr rfl⟩
theorem tail_ends {s a : ByteArray} {b : List UInt8} {r : ByteArray} (h : s.data.toList = a.data.toList ++ b) (ht : Tail b r) : ends s a.size := by
  obtain ⟨h0, h1, h2⟩ := tail_at ht
  have hz := size_app h
  refine ⟨by omega, ?_, ?_⟩
  · have := at_right h 0
    rw [Nat.add_zero, h0] at this
    exact this
  · rcases h2 with h2 | h2
    · left; omega
    · right
      rw [at_right h 1, h2]; rfl
theorem tail_rest {s a : ByteArray} {b : List UInt8} {r : ByteArray} (h : s.data.toList = a.data.toList ++ b) (ht : Tail b r) : trimL (s.extract (a.size + 1) s.size) = r := by
  have hl : (s.extract (a.size + 1) s.size).data.toList = b.drop 1 := by
    rw [ex_list, h, ← len_list a, ← List.drop_drop, List.drop_left]
  rcases ht with ⟨rfl, rfl⟩ | ⟨rfl, hr⟩
  · have e : s.extract (a.size + 1) s.size = ⟨#[]⟩ := ba_ext hl
    rw [e]; rfl
  · have hl2 : (s.extract (a.size + 1) s.size).data.toList = 32 :: r.data.toList := hl
    obtain ⟨t, ht⟩ : ∃ t, t = s.extract (a.size + 1) s.size := ⟨_, rfl⟩
    rw [← ht] at hl2 ⊢
    apply ba_ext
    rw [trimL_list]
    have hi : ind t = 1 := by
      have h32 : at_ t 0 = 32 := by unfold at_; rw [hl2]; rfl
      have hsz : t.size = r.size + 1 := by rw [← len_list, hl2, List.length_cons, len_list]
      refine ind_end (ind_go (Nat.zero_le _) (by omega) h32) ?_
      right
      have : at_ t 1 = at_ r 0 := by unfold at_; rw [hl2]; rfl
      rw [this]; exact hr
    rw [hi, hl2]; rfl
theorem plain_first {k : ByteArray} (h : Plain k) : at_ k 0 ≠ 34 := fun e => (h.all 0 h.pos).1 (.inr (.inl e))
theorem quoted_front {k s : ByteArray} {l : List Int} {r : List UInt8} (h : rune.runesF k = some l) (hs : s.data.toList = (quote.quotedF k).data.toList ++ r) :
    0 < s.size ∧ at_ s 0 = 34 ∧ readq.readF s 0 = (k, ((quote.quotedF k).size : Int)) := by
  have hv : ∀ x ∈ l, ∃ n : Nat, x = (n : Int) ∧ rune.valid n := fun x hx => quote.cut_valid h x hx
  rw [quote.quoted_yes h, quote.runes_q h] at hs ⊢
  rw [quote.wrap_list, List.cons_append, List.append_assoc] at hs
  have h1 := quote.at_list (s := s) (p := 0) (b := 34) (r := quote.byR l ++ ([34] ++ r)) (by rw [hs]; rfl)
  have h2 := quote.read_list l hv 1 [] ([34] ++ r) h1.2.2
  have h3 := quote.at_list (s := s) (p := 1 + (quote.byR l).length) (b := 34) (r := r) (by rw [← List.drop_drop, h1.2.2, List.drop_left]; rfl)
  have hr := readq.readF_yes (s := s) (a := 0) h1.1 h1.2.1
  rw [show ((0 : Nat) : Int) = 0 from rfl] at hr
  refine ⟨h1.1, h1.2.1, ?_⟩
  rw [hr, readq.in_some (h2.trans (readq.read_close h3.1 h3.2.1)), quote.wrap_size]
  refine Prod.ext ?_ ?_
  · show (⟨([] ++ rune.joinL l).toArray⟩ : ByteArray) = k
    rw [List.nil_append]
    exact rune.runes_join h
  · show ((1 + (quote.byR l).length + 1 : Nat) : Int) = (((quote.byR l).length + 2 : Nat) : Int)
    omega
theorem keyIn_back {k s : ByteArray} {b : List UInt8} {r : ByteArray} (hk : (rune.runesF k).isSome = true) (hs : s.data.toList = (keyT k).data.toList ++ b) (ht : Tail b r) : keyIn s = (k, ((keyT k).size : Int)) := by
  unfold keyT at hs ⊢
  by_cases hp : plainF k = true
  · rw [if_pos hp] at hs ⊢
    have hP := plain_iff.1 hp
    have hz := size_app hs
    have h0 : ¬ (0 < s.size ∧ at_ s 0 = 34) := by
      rintro ⟨_, h⟩
      rw [at_left hs hP.pos] at h
      exact plain_first hP h
    have hke : ke s = (k.size : Int) := ke_yes (tail_ends hs ht) (fun j hj he => by
      have hne := (hP.all j hj).2
      refine hne ⟨hj, by rw [← at_left hs hj]; exact he.2.1, ?_⟩
      by_cases c : j + 1 = k.size
      · exact .inl c
      · right
        rw [← at_left hs (by omega)]
        rcases he.2.2 with h | h
        · omega
        · exact h)
    unfold keyIn
    rw [if_neg h0, hke, Int.toNat_natCast, ex_left hs, if_pos ⟨by omega, hp⟩]
  · rw [if_neg hp] at hs ⊢
    obtain ⟨l, hl⟩ := Option.isSome_iff_exists.1 hk
    obtain ⟨h1, h2, h3⟩ := quoted_front hl hs
    unfold keyIn
    rw [if_pos ⟨h1, h2⟩]
    exact h3
theorem keyOf_back {k s : ByteArray} {b : List UInt8} {r : ByteArray} (hk : (rune.runesF k).isSome = true) (hs : s.data.toList = (keyT k).data.toList ++ b) (ht : Tail b r) : keyOf s = (k, r, true) := by
  unfold keyOf
  rw [keyIn_back hk hs ht]
  simp only [Int.toNat_natCast]
  rw [if_pos ⟨by omega, tail_ends hs ht⟩, tail_rest hs ht]
/-- An item behind two spaces. -/
theorem item_back {r s : ByteArray} (hs : s.data.toList = 45 :: 32 :: 32 :: r.data.toList) (hr : at_ r 0 ≠ 32) : itemOf s = (r, 3, true) := by
  have hsz : s.size = r.size + 3 := by rw [← len_list, hs]; simp
  have h0 : at_ s 0 = 45 := by unfold at_; rw [hs]; rfl
  have h1 : at_ s 1 = 32 := by unfold at_; rw [hs]; rfl
  have hl : (s.extract 1 s.size).data.toList = 32 :: 32 :: r.data.toList := by rw [ex_list, hs]; rfl
  have hi : ind (s.extract 1 s.size) = 2 := by
    obtain ⟨t, ht⟩ : ∃ t, t = s.extract 1 s.size := ⟨_, rfl⟩
    rw [← ht] at hl ⊢
    have z0 : at_ t 0 = 32 := by unfold at_; rw [hl]; rfl
    have z1 : at_ t 1 = 32 := by unfold at_; rw [hl]; rfl
    have z2 : at_ t 2 = at_ r 0 := by unfold at_; rw [hl]; rfl
    have hz : t.size = r.size + 2 := by rw [← len_list, hl]; simp
    exact ind_end (ind_go (ind_go (Nat.zero_le _) (by omega) z0) (by omega) z1) (.inr (by rw [z2]; exact hr))
  unfold itemOf
  rw [if_neg (by rw [hs]; simp), if_pos ⟨by omega, h0, h1⟩, hi]
  refine Prod.ext ?_ rfl
  apply ba_ext
  show (s.extract 3 s.size).data.toList = _
  rw [ex_list, hs]; rfl
theorem item_none {r : ByteArray} (h : Plain r) : (itemOf r).2.2 = false := by
  have h45 : at_ r 0 ≠ 45 := h.first 45 (by decide)
  unfold itemOf
  rw [if_neg, if_neg (fun h2 => h45 h2.2.1)]
  intro e
  apply h45
  unfold at_
  rw [e]; rfl
end Go.Proofs.YtbfkkaafkinpmaaGreatDoor.line
namespace Go.Proofs.YtbfkkaafkinpmaaGreatDoor.sign
open Go Go.RowKit
set_option linter.unusedVariables false

structure Sg where
  kind : Int
  text : ByteArray
  num : Int
  at_ : Int
def zero : Sg := ⟨0, ⟨#[]⟩, 0, 0⟩
def markK (x : Int) : Int := if x = 123 then 1 else if x = 125 then 2 else if x = 91 then 3 else if x = 93 then 4 else if x = 58 then 5 else if x = 44 then 6 else 0
/-- The word stands at p. -/
def Told (s : ByteArray) (p : Nat) (l : List UInt8) : Prop := p + l.length ≤ s.size ∧ s.extract p (p + l.length) = ⟨l.toArray⟩
instance (s : ByteArray) (p : Nat) (l : List UInt8) : Decidable (Told s p l) := by unfold Told; exact inferInstance
def trueW : List UInt8 := [116, 114, 117, 101]
def falseW : List UInt8 := [102, 97, 108, 115, 101]
def nullW : List UInt8 := [110, 117, 108, 108]
theorem told_at {s : ByteArray} {p : Nat} {l : List UInt8} (h : Told s p l) (k : Nat) (hk : k < l.length) : at_ s (p + k) = ((l.getD k 0).toNat : Int) := by
  have h1 := congrArg (fun x : ByteArray => x.data.toList[k]?) h.2
  simp only [ByteArray.data_extract, Array.toList_extract, List.extract_eq_take_drop] at h1
  rw [List.getElem?_take_of_lt (by omega), List.getElem?_drop] at h1
  unfold Go.Proofs.YtbfkkaafkinpmaaGreatDoor.at_
  rw [List.getD_eq_getElem?_getD, h1, List.getD_eq_getElem?_getD]
def wordK (s : ByteArray) (p : Nat) : Int × Nat := if Told s p trueW then (9, 4) else if Told s p falseW then (10, 5) else if Told s p nullW then (11, 4) else (0, 0)
theorem word_true {s : ByteArray} {p : Nat} (h : Told s p trueW) : wordK s p = (9, 4) := if_pos h
theorem word_false {s : ByteArray} {p : Nat} (h0 : ¬ Told s p trueW) (h : Told s p falseW) : wordK s p = (10, 5) := by unfold wordK; rw [if_neg h0, if_pos h]
theorem word_null {s : ByteArray} {p : Nat} (h0 : ¬ Told s p trueW) (h1 : ¬ Told s p falseW) (h : Told s p nullW) : wordK s p = (11, 4) := by unfold wordK; rw [if_neg h0, if_neg h1, if_pos h]
theorem word_no {s : ByteArray} {p : Nat} (h0 : ¬ Told s p trueW) (h1 : ¬ Told s p falseW) (h : ¬ Told s p nullW) : wordK s p = (0, 0) := by unfold wordK; rw [if_neg h0, if_neg h1, if_neg h]
theorem told_first {s : ByteArray} {p : Nat} {b : UInt8} {l : List UInt8} (h : Told s p (b :: l)) : at_ s p = (b.toNat : Int) := by
  have := told_at h 0 (by simp)
  simpa using this
theorem word_else {s : ByteArray} {p : Nat} (h1 : at_ s p ≠ 116) (h2 : at_ s p ≠ 102) (h3 : at_ s p ≠ 110) : ¬ Told s p trueW ∧ ¬ Told s p falseW ∧ ¬ Told s p nullW :=
  ⟨fun h => h1 (told_first h), fun h => h2 (told_first h), fun h => h3 (told_first h)⟩
theorem word_first {s : ByteArray} {p : Nat} (h : (wordK s p).1 ≠ 0) : at_ s p = 116 ∨ at_ s p = 102 ∨ at_ s p = 110 := by
  by_cases h1 : at_ s p = 116
  · exact .inl h1
  by_cases h2 : at_ s p = 102
  · exact .inr (.inl h2)
  by_cases h3 : at_ s p = 110
  · exact .inr (.inr h3)
  have := word_else h1 h2 h3
  rw [word_no this.1 this.2.1 this.2.2] at h
  exact absurd rfl h
theorem word_bd (s : ByteArray) (p : Nat) : wordK s p = (0, 0) ∨ (0 < (wordK s p).1 ∧ 0 < (wordK s p).2 ∧ p + (wordK s p).2 ≤ s.size) := by
  by_cases h1 : Told s p trueW
  · rw [word_true h1]; exact .inr ⟨by decide, by decide, h1.1⟩
  by_cases h2 : Told s p falseW
  · rw [word_false h1 h2]; exact .inr ⟨by decide, by decide, h2.1⟩
  by_cases h3 : Told s p nullW
  · rw [word_null h1 h2 h3]; exact .inr ⟨by decide, by decide, h3.1⟩
  · exact .inl (word_no h1 h2 h3)

/-- No number without a digit or '-'. -/
theorem whole_no {s : ByteArray} {p : Nat} (hp : p < s.size) (h : ¬ (at_ s p = 45 ∨ (48 ≤ at_ s p ∧ at_ s p ≤ 57))) : whole.wholeF s (p : Int) = (0, -1) := by
  rw [whole.whole_in hp]
  unfold whole.wholeN whole.head
  rw [if_neg (fun e => h (.inl e)), if_pos]
  refine .inl (whole.run_end (by omega) (Nat.zero_le _) ?_)
  rw [Nat.add_zero]
  omega
theorem whole_bd (s : ByteArray) (a : Int) : whole.wholeF s a = (0, -1) ∨ ∃ q : Nat, (whole.wholeF s a).2 = (q : Int) ∧ a < (q : Int) ∧ q ≤ s.size ∧ -9223372036854775808 ≤ (whole.wholeF s a).1 ∧ (whole.wholeF s a).1 ≤ 9223372036854775807 := by
  unfold whole.wholeF
  split
  · rename_i ha
    obtain ⟨p, rfl⟩ := Int.eq_ofNat_of_zero_le ha.1
    rw [Int.toNat_natCast]
    unfold whole.wholeN
    split
    · exact .inl rfl
    rename_i hb
    have h0 : whole.run s (whole.head s p) ≠ 0 := fun e => hb (.inl e)
    unfold whole.head at h0
    split
    · rename_i h45
      rw [if_pos h45] at h0
      have := whole.run_le s (p + 1) (by omega)
      split
      · exact .inr ⟨_, rfl, by omega, by omega, by simp only; omega, by simp only; omega⟩
      · exact .inl rfl
    · rename_i h45
      rw [if_neg h45] at h0
      have := whole.run_le s p (by omega)
      split
      · exact .inr ⟨_, rfl, by omega, by omega, by simp only; omega, by simp only; omega⟩
      · exact .inl rfl
  · exact .inl rfl

noncomputable def signN (s : ByteArray) (a : Nat) : Sg × Int :=
  if markK (at_ s a) ≠ 0 then (⟨markK (at_ s a), ⟨#[]⟩, 0, a⟩, ((a + 1 : Nat) : Int))
  else if at_ s a = 34 then (if (readq.readF s (a : Int)).2 < 0 then (zero, -1) else (⟨7, (readq.readF s (a : Int)).1, 0, a⟩, (readq.readF s (a : Int)).2))
  else if at_ s a = 45 ∨ (48 ≤ at_ s a ∧ at_ s a ≤ 57) then (if (whole.wholeF s (a : Int)).2 < 0 then (zero, -1) else (⟨8, ⟨#[]⟩, (whole.wholeF s (a : Int)).1, a⟩, (whole.wholeF s (a : Int)).2))
  else if (wordK s a).1 ≠ 0 then (⟨(wordK s a).1, ⟨#[]⟩, 0, a⟩, ((a + (wordK s a).2 : Nat) : Int))
  else (zero, -1)
noncomputable def signF (s : ByteArray) (a : Int) : Sg × Int := if 0 ≤ a ∧ a < s.size then signN s a.toNat else (zero, -1)
theorem sign_out {s : ByteArray} {a : Int} (h : ¬ (0 ≤ a ∧ a < s.size)) : signF s a = (zero, -1) := if_neg h
theorem sign_in {s : ByteArray} {a : Nat} (h : a < s.size) : signF s (a : Int) = signN s a := by
  unfold signF
  rw [if_pos ⟨by omega, by omega⟩, Int.toNat_natCast]
theorem n_mark {s : ByteArray} {a : Nat} (h : markK (at_ s a) ≠ 0) : signN s a = (⟨markK (at_ s a), ⟨#[]⟩, 0, a⟩, ((a + 1 : Nat) : Int)) := if_pos h
theorem n_text {s : ByteArray} {a : Nat} (h : at_ s a = 34) : signN s a = if (readq.readF s (a : Int)).2 < 0 then (zero, -1) else (⟨7, (readq.readF s (a : Int)).1, 0, a⟩, (readq.readF s (a : Int)).2) := by
  unfold signN
  rw [if_neg (by rw [h]; decide), if_pos h]
theorem n_num {s : ByteArray} {a : Nat} (h : at_ s a = 45 ∨ (48 ≤ at_ s a ∧ at_ s a ≤ 57)) : signN s a = if (whole.wholeF s (a : Int)).2 < 0 then (zero, -1) else (⟨8, ⟨#[]⟩, (whole.wholeF s (a : Int)).1, a⟩, (whole.wholeF s (a : Int)).2) := by
  unfold signN
  have h1 : ¬ markK (at_ s a) ≠ 0 := by
    unfold markK
    simp only [ne_eq, Decidable.not_not]
    rw [if_neg (by omega), if_neg (by omega), if_neg (by omega), if_neg (by omega), if_neg (by omega), if_neg (by omega)]
  rw [if_neg h1, if_neg (by omega), if_pos h]
theorem n_word {s : ByteArray} {a : Nat} (h : (wordK s a).1 ≠ 0) : signN s a = (⟨(wordK s a).1, ⟨#[]⟩, 0, a⟩, ((a + (wordK s a).2 : Nat) : Int)) := by
  have hf := word_first h
  unfold signN
  have h1 : ¬ markK (at_ s a) ≠ 0 := by
    unfold markK
    simp only [ne_eq, Decidable.not_not]
    rw [if_neg (by omega), if_neg (by omega), if_neg (by omega), if_neg (by omega), if_neg (by omega), if_neg (by omega)]
  rw [if_neg h1, if_neg (by omega), if_neg (by omega), if_pos h]
theorem n_none {s : ByteArray} {a : Nat} (h1 : markK (at_ s a) = 0) (h2 : at_ s a ≠ 34) (h3 : ¬ (at_ s a = 45 ∨ (48 ≤ at_ s a ∧ at_ s a ≤ 57))) (h4 : wordK s a = (0, 0)) : signN s a = (zero, -1) := by
  unfold signN
  rw [if_neg (by rw [h1]; decide), if_neg h2, if_neg h3, if_neg (by rw [h4]; decide)]
theorem sign_bd (s : ByteArray) (a : Nat) (ha : a < s.size) : signN s a = (zero, -1) ∨ ∃ q : Nat, (signN s a).2 = (q : Int) ∧ a < q ∧ q ≤ s.size := by
  by_cases h1 : markK (at_ s a) ≠ 0
  · rw [n_mark h1]; exact .inr ⟨a + 1, rfl, by omega, by omega⟩
  by_cases h2 : at_ s a = 34
  · rw [n_text h2]
    split
    · exact .inl rfl
    · rename_i hn
      rcases readq.readF_bd s a with e | ⟨q, e, h3, h4⟩
      · rw [e] at hn; exact absurd (by decide) hn
      · exact .inr ⟨q, e, by omega, h4⟩
  by_cases h3 : at_ s a = 45 ∨ (48 ≤ at_ s a ∧ at_ s a ≤ 57)
  · rw [n_num h3]
    split
    · exact .inl rfl
    · rename_i hn
      rcases whole_bd s a with e | ⟨q, e, h5, h4, _⟩
      · rw [e] at hn; exact absurd (by decide) hn
      · exact .inr ⟨q, e, by omega, h4⟩
  rcases word_bd s a with e | ⟨h4, h5, h6⟩
  · exact .inl (n_none (by omega) h2 h3 e)
  · rw [n_word (by omega)]; exact .inr ⟨_, rfl, by omega, h6⟩

/-! SignsOf. -/
def blank (x : Int) : Prop := x = 32 ∨ x = 9 ∨ x = 10 ∨ x = 13
instance (x : Int) : Decidable (blank x) := by unfold blank; exact inferInstance
/-- The first place from p on at which no code point is told. -/
noncomputable def badAt (s : ByteArray) (p : Nat) : Option Nat :=
  if hp : p < s.size then (if h : (rune.atF s (p : Int)).2 ≤ (p : Int) then some p else badAt s (rune.atF s (p : Int)).2.toNat) else none
termination_by s.size - p
decreasing_by omega
theorem bad_end {s : ByteArray} {p : Nat} (h : s.size ≤ p) : badAt s p = none := by rw [badAt, dif_neg (by omega)]
theorem bad_here {s : ByteArray} {p : Nat} (h : p < s.size) (h2 : (rune.atF s (p : Int)).2 < 0) : badAt s p = some p := by rw [badAt, dif_pos h, dif_pos (by omega)]
theorem bad_go {s : ByteArray} {p q : Nat} (h : p < s.size) (h2 : (rune.atF s (p : Int)).2 = (q : Int)) (hq : p < q) : badAt s p = badAt s q := by
  rw [badAt, dif_pos h, dif_neg (by omega), h2, Int.toNat_natCast]
/-- The signs from place p on, behind l; or the place at which none begins. -/
noncomputable def signsF (s : ByteArray) (p : Nat) (l : List Sg) : Except Nat (List Sg) :=
  if hp : p < s.size then
    if blank (at_ s p) then signsF s (p + 1) l
    else if h : (signN s p).2 ≤ (p : Int) then .error p
    else signsF s (signN s p).2.toNat (l ++ [(signN s p).1])
  else .ok l
termination_by s.size - p
decreasing_by all_goals omega
theorem signs_end {s : ByteArray} {p : Nat} {l : List Sg} (h : s.size ≤ p) : signsF s p l = .ok l := by rw [signsF, dif_neg (by omega)]
theorem signs_blank {s : ByteArray} {p : Nat} {l : List Sg} (h : p < s.size) (h2 : blank (at_ s p)) : signsF s p l = signsF s (p + 1) l := by rw [signsF, dif_pos h, if_pos h2]
theorem signs_bad {s : ByteArray} {p : Nat} {l : List Sg} (h : p < s.size) (h2 : ¬ blank (at_ s p)) (h3 : (signN s p).2 < 0) : signsF s p l = .error p := by rw [signsF, dif_pos h, if_neg h2, dif_pos (by omega)]
theorem signs_go {s : ByteArray} {p q : Nat} {l : List Sg} (h : p < s.size) (h2 : ¬ blank (at_ s p)) (h3 : (signN s p).2 = (q : Int)) (hq : p < q) : signsF s p l = signsF s q (l ++ [(signN s p).1]) := by
  rw [signsF, dif_pos h, if_neg h2, dif_neg (by omega), h3, Int.toNat_natCast]
/-- Behind the blanks from p on. -/
def isB (b : UInt8) : Bool := b.toNat == 32 || b.toNat == 9 || b.toNat == 10 || b.toNat == 13
def skip (s : ByteArray) (p : Nat) : Nat := p + ((s.data.toList.drop p).takeWhile isB).length
theorem skip_end {s : ByteArray} {p : Nat} (h : s.size ≤ p) : skip s p = p := by
  unfold skip
  rw [List.drop_eq_nil_of_le (by simpa using h)]
  rfl
theorem isB_at (s : ByteArray) (p : Nat) (hp : p < s.size) : isB (s.data.toList[p]'(by simpa using hp)) = true ↔ blank (at_ s p) := by
  unfold isB blank Go.Proofs.YtbfkkaafkinpmaaGreatDoor.at_
  rw [List.getD_eq_getElem?_getD, List.getElem?_eq_getElem (by simpa using hp), Option.getD_some]
  simp only [Bool.or_eq_true, beq_iff_eq]
  omega
theorem skip_yes {s : ByteArray} {p : Nat} (h : p < s.size) (h2 : blank (at_ s p)) : skip s p = skip s (p + 1) := by
  unfold skip
  rw [List.drop_eq_getElem_cons (by simpa using h), List.takeWhile_cons, if_pos ((isB_at s p h).2 h2), List.length_cons]
  omega
theorem skip_no {s : ByteArray} {p : Nat} (h : p < s.size) (h2 : ¬ blank (at_ s p)) : skip s p = p := by
  unfold skip
  rw [List.drop_eq_getElem_cons (by simpa using h), List.takeWhile_cons, if_neg (fun e => h2 ((isB_at s p h).1 e))]
  rfl
theorem skip_at : ∀ (n : Nat) (s : ByteArray) (p : Nat), s.size - p = n → p ≤ s.size → p ≤ skip s p ∧ skip s p ≤ s.size ∧ (skip s p < s.size → ¬ blank (at_ s (skip s p))) ∧ ∀ l, signsF s p l = signsF s (skip s p) l := by
  intro n
  induction n with
  | zero => intro s p hn hp; rw [skip_end (by omega)]; exact ⟨by omega, hp, fun h => by omega, fun l => rfl⟩
  | succ n ih =>
    intro s p hn hp
    by_cases hb : blank (at_ s p)
    · have h1 := ih s (p + 1) (by omega) (by omega)
      rw [← skip_yes (by omega) hb] at h1
      exact ⟨by omega, h1.2.1, h1.2.2.1, fun l => by rw [signs_blank (by omega) hb]; exact h1.2.2.2 l⟩
    · rw [skip_no (by omega) hb]; exact ⟨by omega, hp, fun _ => hb, fun l => rfl⟩
structure Ft where
  code : Int
  at_ : Int
  path : ByteArray
noncomputable def allF (s : ByteArray) : List Sg × Ft :=
  if 20000 < s.size then ([], ⟨1, 0, ⟨#[]⟩⟩) else match badAt s 0 with
  | some q => ([], ⟨2, q, ⟨#[]⟩⟩)
  | none => match signsF s 0 [] with
    | .error q => ([], ⟨3, q, ⟨#[]⟩⟩)
    | .ok l => (l, ⟨0, 0, ⟨#[]⟩⟩)
theorem all_long {s : ByteArray} (h : 20000 < s.size) : allF s = ([], ⟨1, 0, ⟨#[]⟩⟩) := if_pos h
theorem all_bad {s : ByteArray} {q : Nat} (h : ¬ 20000 < s.size) (h2 : badAt s 0 = some q) : allF s = ([], ⟨2, q, ⟨#[]⟩⟩) := by unfold allF; rw [if_neg h, h2]
theorem all_sign {s : ByteArray} {q : Nat} (h : ¬ 20000 < s.size) (h2 : badAt s 0 = none) (h3 : signsF s 0 [] = .error q) : allF s = ([], ⟨3, q, ⟨#[]⟩⟩) := by unfold allF; rw [if_neg h, h2, h3]
theorem all_ok {s : ByteArray} {l : List Sg} (h : ¬ 20000 < s.size) (h2 : badAt s 0 = none) (h3 : signsF s 0 [] = .ok l) : allF s = (l, ⟨0, 0, ⟨#[]⟩⟩) := by unfold allF; rw [if_neg h, h2, h3]
end Go.Proofs.YtbfkkaafkinpmaaGreatDoor.sign
namespace Go.Proofs.YtbfkkaafkinpmaaGreatDoor.whole
open Go Go.RowKit
set_option linter.unusedVariables false

theorem dec_head (u : Nat) : 1 ≤ u → ((Lib.decDigits u).getD 0 0).toNat ≠ 48 := by
  induction u using Nat.strongRecOn with
  | _ u ih =>
    intro hu
    rw [Lib.decDigits]
    by_cases h : u < 10
    · rw [dif_pos h]
      simp
      omega
    · rw [dif_neg h]
      have h1 := ih (u / 10) (by omega) (by omega)
      have h2 := num.dec_ne (u / 10)
      cases hl : Lib.decDigits (u / 10) with
      | nil => exact absurd hl h2
      | cons a r =>
        rw [hl] at h1
        simpa using h1
theorem dec_canon (u : Nat) : canon (Lib.decDigits u) := by
  refine ⟨num.dec_ne u, num.dec_isD u, ?_⟩
  by_cases h : u = 0
  · left
    subst h
    rw [Lib.decDigits, dif_pos (by decide)]
    rfl
  · exact .inr (dec_head u (by omega))
theorem isD_dig {c : UInt8} (h : num.isD c) : split.dig c = true := by
  unfold num.isD at h
  unfold split.dig
  simp
  omega
/-- A text of other bytes l, digits d, and a space. -/
theorem run_of {s : ByteArray} {p : Nat} {d : List UInt8} (h : s.data.toList.drop p = d ++ [32]) (hd : ∀ c ∈ d, num.isD c) : run s p = d.length ∧ figs s p = d ∧ p + d.length < s.size ∧ at_ s (p + d.length) = 32 := by
  have e : s.data.toList.length = s.size := by simp
  have h1 : run s p = d.length := by
    unfold run
    rw [h, split.ld_app d [32] (fun c hc => isD_dig (hd c hc))]
    rfl
  have hl : (s.data.toList.drop p).length = d.length + 1 := by rw [h]; simp
  rw [List.length_drop, e] at hl
  refine ⟨h1, ?_, by omega, ?_⟩
  · unfold figs
    rw [h1, h]
    simp
  · unfold at_
    rw [← getD_drop, h]
    simp
theorem good_of {s : ByteArray} {p : Nat} {d : List UInt8} (h : s.data.toList.drop p = d ++ [32]) (hc : canon d) : ¬ bad s p := by
  obtain ⟨h1, h2, h3, h4⟩ := run_of h hc.2.1
  unfold bad
  rw [h1]
  have hne : d.length ≠ 0 := fun e => hc.1 (List.eq_nil_of_length_eq_zero e)
  rintro (hb | ⟨hb, hb2⟩ | ⟨hb, hb2⟩)
  · exact hne hb
  · rcases hc.2.2 with h5 | h5
    · omega
    · have h6 := figs_get s p 0 (by omega)
      rw [h2, Nat.add_zero] at h6
      omega
  · omega
theorem back (n : Int) (h0 : -9223372036854775808 ≤ n) (h1 : n ≤ 9223372036854775807) : wholeF (⟨(Lib.itoa n).toArray⟩ ++ ⟨#[32]⟩) 0 = (n, ((⟨(Lib.itoa n).toArray⟩ : ByteArray).size : Int)) := by
  obtain ⟨s, hs⟩ : ∃ s : ByteArray, s = ⟨(Lib.itoa n).toArray⟩ ++ ⟨#[32]⟩ := ⟨_, rfl⟩
  have hl : s.data.toList = Lib.itoa n ++ [32] := by rw [hs]; simp
  have e : s.data.toList.length = s.size := by simp
  have hsz : s.size = (Lib.itoa n).length + 1 := by rw [← e, hl]; simp
  have hz : (⟨(Lib.itoa n).toArray⟩ : ByteArray).size = (Lib.itoa n).length := by show (Lib.itoa n).toArray.size = _; rw [List.size_toArray]
  rw [← hs, hz]
  have hin := whole_in (s := s) (a := 0) (by omega)
  rw [show ((0 : Nat) : Int) = 0 from rfl] at hin
  rw [hin]
  by_cases hn : 0 ≤ n
  · obtain ⟨u, rfl⟩ := Int.eq_ofNat_of_zero_le hn
    rw [num.itoa_nat] at hl ⊢
    have hc := dec_canon u
    have hd : s.data.toList.drop 0 = Lib.decDigits u ++ [32] := by rw [List.drop_zero, hl]
    obtain ⟨r1, r2, r3, r4⟩ := run_of hd hc.2.1
    have hg := good_of hd hc
    have h45 : at_ s 0 ≠ 45 := by
      have hp : 0 < run s 0 := by
        rcases Nat.eq_zero_or_pos (run s 0) with e0 | e0
        · exact absurd (.inl e0) hg
        · exact e0
      have := run_dig (s := s) (p := 0) (k := 0) hp
      rw [Nat.add_zero] at this
      omega
    unfold wholeN head
    rw [if_neg h45, if_neg hg, if_neg h45]
    unfold spells
    rw [r2, num.dec_fold, if_pos (by omega), r1, Nat.zero_add]
  · have hi : Lib.itoa n = 45 :: Lib.decDigits n.natAbs := by rw [Lib.itoa, if_pos (by omega)]
    rw [hi] at hl ⊢
    have hc := dec_canon n.natAbs
    have hd : s.data.toList.drop 1 = Lib.decDigits n.natAbs ++ [32] := by rw [hl]; rfl
    obtain ⟨r1, r2, r3, r4⟩ := run_of hd hc.2.1
    have hg := good_of hd hc
    have h45 : at_ s 0 = 45 := by unfold at_; rw [hl]; rfl
    unfold wholeN head
    rw [if_pos h45, Nat.zero_add, if_neg hg, if_pos h45]
    unfold spells
    rw [r2, num.dec_fold, if_pos (by omega), r1]
    refine Prod.ext ?_ ?_
    · show -(n.natAbs : Int) = n
      omega
    · show ((1 + (Lib.decDigits n.natAbs).length : Nat) : Int) = ((45 :: Lib.decDigits n.natAbs).length : Int)
      rw [List.length_cons]
      omega
theorem itoa_le (n : Int) (h0 : -9223372036854775808 ≤ n) (h1 : n ≤ 9223372036854775807) : (⟨(Lib.itoa n).toArray⟩ : ByteArray).size ≤ 20 := by
  by_cases hn : 0 ≤ n
  · obtain ⟨_, _, _, h⟩ := readnum.pos_yes n hn h1
    exact h
  · exact readnum.neg_len n (by omega) h0
theorem least_w : wholeF ⟨#[45, 57, 50, 50, 51, 51, 55, 50, 48, 51, 54, 56, 53, 52, 55, 55, 53, 56, 48, 56]⟩ 0 = (-9223372036854775808, 20) := by decide +kernel
theorem part_w : wholeF ⟨#[49, 46, 53]⟩ 0 = (0, -1) := by decide +kernel
theorem power_w : wholeF ⟨#[49, 101, 51]⟩ 0 = (0, -1) := by decide +kernel
theorem nought_w : wholeF ⟨#[48, 49]⟩ 0 = (0, -1) := by decide +kernel
theorem above_w : wholeF ⟨#[57, 50, 50, 51, 51, 55, 50, 48, 51, 54, 56, 53, 52, 55, 55, 53, 56, 48, 56]⟩ 0 = (0, -1) := by decide +kernel
end Go.Proofs.YtbfkkaafkinpmaaGreatDoor.whole
namespace Go.Proofs.YtbfkkaafkinpmaaGreatDoor.say
open Go Go.RowKit tree
set_option linter.unusedVariables false

def nullL : List UInt8 := [110, 117, 108, 108]
def trueL : List UInt8 := [116, 114, 117, 101]
def falseL : List UInt8 := [102, 97, 108, 115, 101]
def joinC : List (List UInt8) → List UInt8
  | [] => []
  | [x] => x
  | x :: y :: r => x ++ 44 :: joinC (y :: r)
theorem joinC_cons (x : List UInt8) {l : List (List UInt8)} (h : l ≠ []) : joinC (x :: l) = x ++ 44 :: joinC l := by
  cases l with
  | nil => exact absurd rfl h
  | cons y r => rfl
theorem joinC_snoc : ∀ (l : List (List UInt8)) (x : List UInt8), joinC (l ++ [x]) = if l = [] then x else joinC l ++ 44 :: x
  | [], x => rfl
  | [y], x => by simp [joinC]
  | y :: z :: r, x => by
    have ih := joinC_snoc (z :: r) x
    rw [if_neg (by simp)] at ih ⊢
    show y ++ 44 :: joinC ((z :: r) ++ [x]) = _
    rw [ih]
    simp [joinC]
noncomputable def quoteL (s : ByteArray) : List UInt8 := (quote.quotedF s).data.toList
noncomputable def pairL (k : ByteArray) (x : List UInt8) : List UInt8 := quoteL k ++ 58 :: x
mutual
noncomputable def say : T → List UInt8
  | .mk k fl n s ks kids =>
    if k = 1 then nullL else if k = 2 then (if fl then trueL else falseL) else if k = 3 then Lib.itoa n else if k = 4 then quoteL s
    else if k = 5 then 91 :: (joinC (says kids) ++ [93]) else 123 :: (joinC (List.zipWith pairL ks (says kids)) ++ [125])
noncomputable def says : List T → List (List UInt8)
  | [] => []
  | t :: r => say t :: says r
end
theorem says_map : ∀ l : List T, says l = l.map say
  | [] => rfl
  | t :: r => by rw [says, says_map r]; rfl
theorem say1 (fl : Bool) (n : Int) (s : ByteArray) (ks : List ByteArray) (kids : List T) : say (.mk 1 fl n s ks kids) = nullL := by rw [say]; rfl
theorem say2 (fl : Bool) (n : Int) (s : ByteArray) (ks : List ByteArray) (kids : List T) : say (.mk 2 fl n s ks kids) = if fl then trueL else falseL := by rw [say]; rfl
theorem say3 (fl : Bool) (n : Int) (s : ByteArray) (ks : List ByteArray) (kids : List T) : say (.mk 3 fl n s ks kids) = Lib.itoa n := by rw [say]; rfl
theorem say4 (fl : Bool) (n : Int) (s : ByteArray) (ks : List ByteArray) (kids : List T) : say (.mk 4 fl n s ks kids) = quoteL s := by rw [say]; rfl
theorem say5 (fl : Bool) (n : Int) (s : ByteArray) (ks : List ByteArray) (kids : List T) : say (.mk 5 fl n s ks kids) = 91 :: (joinC (kids.map say) ++ [93]) := by rw [say, says_map]; rfl
theorem say6 (fl : Bool) (n : Int) (s : ByteArray) (ks : List ByteArray) (kids : List T) : say (.mk 6 fl n s ks kids) = 123 :: (joinC (List.zipWith pairL ks (kids.map say)) ++ [125]) := by rw [say, says_map]; rfl

/-! How long it is. -/
theorem quoteL_le (s : ByteArray) : (quoteL s).length ≤ 6 * s.size + 2 := by
  unfold quoteL
  cases h : rune.runesF s with
  | none => rw [quote.quoted_no h]; simp
  | some l =>
    rw [quote.quoted_yes h]
    show ((34 :: quote.byB s.data.toList) ++ [34]).length ≤ _
    have : ∀ l : List UInt8, (quote.byB l).length ≤ 6 * l.length := by
      intro l
      induction l with
      | nil => simp [quote.byB]
      | cons b r ih =>
        unfold quote.byB at ih ⊢
        rw [List.flatMap_cons, List.length_append, List.length_cons]
        have := quote.qB_le b
        omega
    have h2 := this s.data.toList
    have h3 : s.data.toList.length = s.size := by simp
    simp only [List.length_append, List.length_cons, List.length_nil]
    omega
theorem joinC_le : ∀ l : List (List UInt8), (joinC l).length + 1 ≤ 1 + (l.map (fun x => x.length + 1)).sum
  | [] => by simp [joinC]
  | [x] => by simp [joinC]
  | x :: y :: r => by
    have := joinC_le (y :: r)
    simp only [joinC, List.length_append, List.length_cons, List.map_cons, List.sum_cons] at this ⊢
    omega
theorem dec_len : ∀ (k u : Nat), u < 10 ^ (k + 1) → (Lib.decDigits u).length ≤ k + 1
  | 0, u, h => by rw [Lib.decDigits, dif_pos (by simpa using h)]; simp
  | k + 1, u, h => by
    by_cases h2 : u < 10
    · rw [Lib.decDigits, dif_pos h2]; simp
    · rw [Lib.decDigits, dif_neg h2, List.length_append, List.length_singleton]
      have := dec_len k (u / 10) (by rw [Nat.pow_succ] at h; omega)
      omega
theorem itoa_le (n : Int) (h0 : -9223372036854775808 ≤ n) (h1 : n ≤ 9223372036854775807) : (Lib.itoa n).length ≤ 20 := by
  unfold Lib.itoa
  split
  · have := dec_len 18 n.natAbs (by omega)
    rw [List.length_cons]; omega
  · have := dec_len 18 n.toNat (by omega)
    omega
mutual
/-- Every number fits. -/
def Nums : T → Prop
  | .mk _ _ n _ _ kids => (-9223372036854775808 ≤ n ∧ n ≤ 9223372036854775807) ∧ Numss kids
def Numss : List T → Prop
  | [] => True
  | t :: r => Nums t ∧ Numss r
end
theorem numss_iff : ∀ l : List T, Numss l ↔ ∀ x ∈ l, Nums x
  | [] => by simp [Numss]
  | t :: r => by rw [Numss, numss_iff r]; simp
set_option maxRecDepth 100000 in
theorem sum_says : ∀ (kids : List T), (∀ x ∈ kids, (say x).length + 2404 ≤ 5000 * size x) → ((kids.map say).map (fun x => x.length + 1)).sum + 2403 * kids.length ≤ 5000 * sizes kids
  | [], _ => by simp
  | t :: r, h => by
    have h1 := h t List.mem_cons_self
    have h2 := sum_says r (fun x hx => h x (List.mem_cons_of_mem _ hx))
    rw [sizes, List.map_cons, List.map_cons, List.sum_cons, List.length_cons]
    clear h
    generalize ((r.map say).map (fun x => x.length + 1)).sum = a at h2 ⊢
    generalize sizes r = b at h2 ⊢
    generalize size t = c at h1 ⊢
    generalize (say t).length = d at h1 ⊢
    generalize r.length = e at h2 ⊢
    rw [Nat.mul_add, Nat.mul_add]
    omega
set_option maxRecDepth 100000 in
theorem sum_pairs : ∀ (ks : List ByteArray) (ls : List (List UInt8)), (∀ k ∈ ks, k.size ≤ 400) → ((List.zipWith pairL ks ls).map (fun x => x.length + 1)).sum ≤ (ls.map (fun x => x.length + 1)).sum + 2403 * ls.length
  | [], ls, _ => by simp
  | k :: ks, [], _ => by simp
  | k :: ks, l :: ls, h => by
    have h1 := sum_pairs ks ls (fun x hx => h x (List.mem_cons_of_mem _ hx))
    have h2 := quoteL_le k
    have h3 := h k List.mem_cons_self
    rw [List.zipWith_cons_cons, List.map_cons, List.map_cons, List.sum_cons, List.sum_cons, List.length_cons]
    have h4 : (pairL k l).length = (quoteL k).length + (l.length + 1) := by simp [pairL]
    generalize ((List.zipWith pairL ks ls).map (fun x => x.length + 1)).sum = a at h1 ⊢
    generalize (ls.map (fun x => x.length + 1)).sum = b at h1 ⊢
    generalize (pairL k l).length = c at h4 ⊢
    generalize (quoteL k).length = d at h4 h2
    generalize k.size = e at h2 h3
    clear h
    rw [Nat.mul_add]
    omega
set_option maxRecDepth 100000 in
theorem say_le : ∀ (t : T), Shape t → Nums t → (say t).length + 2404 ≤ 5000 * size t := by
  refine T.ind fun k fl n s ks kids ih hsh hn => ?_
  rw [Shape, shapes_iff] at hsh
  rw [Nums, numss_iff] at hn
  obtain ⟨⟨f1, f2, f3, f4, f5, f6, f7, f8⟩, ht, hk, hkids⟩ := hsh
  rw [size]
  have hj := sum_says kids (fun x hx => ih x hx (hkids x hx) (hn.2 x hx))
  have hq := quoteL_le s
  have hks : ∀ x ∈ ks, x.size ≤ 400 := fun x hx => by
    obtain ⟨i, hi, rfl⟩ := List.getElem_of_mem hx
    have := (hk i hi).1.1
    rwa [List.getD_eq_getElem?_getD, List.getElem?_eq_getElem hi] at this
  have ht1 := ht.1
  have hi := itoa_le n hn.1.1 hn.1.2
  obtain rfl | rfl | rfl | rfl | rfl | rfl : k = 1 ∨ k = 2 ∨ k = 3 ∨ k = 4 ∨ k = 5 ∨ k = 6 := by omega
  · rw [say1]; simp only [nullL, List.length_cons, List.length_nil]; omega
  · rw [say2]; split <;> simp only [trueL, falseL, List.length_cons, List.length_nil] <;> omega
  · rw [say3]; omega
  · rw [say4]; omega
  · rw [say5]
    have := joinC_le (kids.map say)
    simp only [List.length_cons, List.length_append, List.length_nil]
    omega
  · rw [say6]
    have := joinC_le (List.zipWith pairL ks (kids.map say))
    have h2 := sum_pairs ks (kids.map say) hks
    rw [List.length_map] at h2
    simp only [List.length_cons, List.length_append, List.length_nil]
    omega
/-- The text's rounds: what stands behind j elements. -/
theorem join_take (l : List (List UInt8)) (j : Nat) (h : j < l.length) : joinC (l.take (j + 1)) = if j = 0 then l[j] else joinC (l.take j) ++ 44 :: l[j] := by
  rw [List.take_succ_eq_append_getElem h, joinC_snoc]
  by_cases hj : j = 0
  · subst hj; simp
  · rw [if_neg (by intro e; have := congrArg List.length e; rw [List.length_take, List.length_nil] at this; omega), if_neg hj]
theorem join_len (l : List (List UInt8)) (j : Nat) : (joinC (l.take j)).length ≤ (joinC l).length := by
  by_cases h : j < l.length
  · have h2 := join_len l (j + 1)
    rw [join_take l j h] at h2
    split at h2
    · rename_i e; subst e; simp [joinC]
    · simp only [List.length_append] at h2; omega
  · rw [List.take_of_length_le (by omega)]; exact Nat.le_refl _
termination_by l.length - j
end Go.Proofs.YtbfkkaafkinpmaaGreatDoor.say
namespace Go.Proofs.YtbfkkaafkinpmaaGreatDoor.tok
open Go Go.RowKit tree sign say quote
set_option linter.unusedVariables false

/-! Valid UTF-8. -/
def U (b : List UInt8) : Prop := ∃ l : List Nat, (∀ n ∈ l, rune.valid n) ∧ b = l.flatMap rune.encB
theorem U.nil : U [] := ⟨[], by simp, rfl⟩
theorem U.append {a b : List UInt8} : U a → U b → U (a ++ b)
  | ⟨l, h1, h2⟩, ⟨m, h3, h4⟩ => ⟨l ++ m, fun n hn => by rcases List.mem_append.1 hn with h | h; exact h1 n h; exact h3 n h, by rw [h2, h4, List.flatMap_append]⟩
theorem U.ascii {b : UInt8} (h : b.toNat < 128) : U [b] := ⟨[b.toNat], fun n hn => by rw [List.mem_singleton] at hn; subst hn; exact .inl (by omega), by
  have e : rune.encB b.toNat = [UInt8.ofNat b.toNat] := by unfold rune.encB; rw [rune.enc1 h]; rfl
  rw [List.flatMap_cons, e]
  simp⟩
theorem U.asciis : ∀ {b : List UInt8}, (∀ x ∈ b, x.toNat < 128) → U b
  | [], _ => U.nil
  | x :: r, h => U.append (a := [x]) (U.ascii (h x List.mem_cons_self)) (U.asciis fun y hy => h y (List.mem_cons_of_mem _ hy))
theorem bad_none {s : ByteArray} : ∀ (l : List Nat) (p : Nat), (∀ n ∈ l, rune.valid n) → s.data.toList.drop p = l.flatMap rune.encB → badAt s p = none
  | [], p, _, h => bad_end (by
      have := congrArg List.length h
      have e : s.data.toList.length = s.size := by simp
      rw [List.length_drop, e] at this
      simp at this; omega)
  | n :: l, p, hv, h => by
    rw [List.flatMap_cons] at h
    have hi := is_of_list (hv n List.mem_cons_self) h
    have hp := rune.enc_pos n
    have h2 := rune.at_yes hi
    have hd : s.data.toList.drop (p + (rune.enc n).length) = l.flatMap rune.encB := by rw [← List.drop_drop, h, ← rune.encB_length, List.drop_left]
    rw [bad_go (by have := hi.2.1; omega) (by rw [h2]) (by omega)]
    exact bad_none l _ (fun m hm => hv m (List.mem_cons_of_mem _ hm)) hd
theorem U.bad {s : ByteArray} (h : U s.data.toList) : badAt s 0 = none := by
  obtain ⟨l, h1, h2⟩ := h
  exact bad_none l 0 h1 (by rw [List.drop_zero]; exact h2)
theorem esc_ascii {n : Nat} {l : List UInt8} (h : esc n = some l) : ∀ x ∈ l, x.toNat < 128 := by
  have hf : ∀ k, k < 16 → (fg k).toNat < 128 := by decide
  unfold esc at h
  repeat' split at h
  all_goals first
    | cases h; done
    | (injection h with h; subst h; intro x hx; simp only [List.mem_cons, List.not_mem_nil, or_false] at hx; rcases hx with rfl | rfl <;> decide)
    | (injection h with h; subst h; intro x hx; simp only [List.mem_cons, List.not_mem_nil, or_false] at hx; rcases hx with rfl | rfl | rfl | rfl | rfl | rfl
       · decide
       · decide
       · decide
       · decide
       · exact hf _ (by omega)
       · exact hf _ (by omega))
theorem U.q {n : Nat} (h : rune.valid n) : U (qN n) := by
  unfold qN
  cases he : esc n with
  | none => exact ⟨[n], fun m hm => by rw [List.mem_singleton] at hm; subst hm; exact h, by simp⟩
  | some l => exact U.asciis (esc_ascii he)
theorem U.byR : ∀ {l : List Int}, (∀ x ∈ l, ∃ n : Nat, x = (n : Int) ∧ rune.valid n) → U (quote.byR l)
  | [], _ => U.nil
  | x :: l, h => by
    obtain ⟨n, rfl, hv⟩ := h x List.mem_cons_self
    have hb : quote.byR ((n : Int) :: l) = qN n ++ quote.byR l := by simp [quote.byR]
    rw [hb]
    exact U.append (U.q hv) (U.byR fun y hy => h y (List.mem_cons_of_mem _ hy))
theorem quoteL_eq {s : ByteArray} {l : List Int} (h : rune.runesF s = some l) : quoteL s = 34 :: (quote.byR l ++ [34]) := by
  unfold quoteL
  rw [quoted_yes h, runes_q h]
  rfl
theorem U.quote {s : ByteArray} (h : (rune.runesF s).isSome = true) : U (quoteL s) := by
  cases hl : rune.runesF s with
  | none => rw [hl] at h; cases h
  | some l =>
    rw [quoteL_eq hl]
    exact U.append (a := [34]) (U.ascii (by decide)) (U.append (U.byR fun x hx => cut_valid hl x hx) (U.ascii (by decide)))
theorem U.dec (u : Nat) : U (Lib.decDigits u) := U.asciis fun x hx => by have := num.dec_isD u x hx; unfold num.isD at this; omega
theorem U.itoa (n : Int) : U (Lib.itoa n) := by
  unfold Lib.itoa
  split
  · exact U.append (a := [45]) (U.ascii (by decide)) (U.dec _)
  · exact U.dec _

/-! One token. -/
/-- What may follow a number. -/
def Stop (r : List UInt8) : Prop := ∀ b t, r = b :: t → split.dig b = false ∧ b.toNat ≠ 46 ∧ b.toNat ≠ 101 ∧ b.toNat ≠ 69
theorem Stop.nil : Stop [] := fun b t h => by cases h
theorem Stop.cons {b : UInt8} {r : List UInt8} (h : b.toNat = 32 ∨ b.toNat = 9 ∨ b.toNat = 10 ∨ b.toNat = 13 ∨ b.toNat = 44 ∨ b.toNat = 93 ∨ b.toNat = 125 ∨ b.toNat = 58) : Stop (b :: r) := fun c t e => by
  injection e with e1 e2
  subst e1
  refine ⟨?_, by omega, by omega, by omega⟩
  unfold split.dig
  simp
  omega
/-- Wherever b stands ahead of what may follow a number, the sign is g. -/
def Spells (g : Sg) (b : List UInt8) : Prop := (∃ x r, b = x :: r ∧ ¬ sign.blank (x.toNat : Int)) ∧ ∀ (s : ByteArray) (p : Nat) (r : List UInt8), s.data.toList.drop p = b ++ r → (g.kind = 8 → Stop r) → signN s p = ({ g with at_ := (p : Int) }, ((p + b.length : Nat) : Int))
theorem blank_mark {x : Int} (e : sign.blank x) : markK x = 0 := by
  unfold sign.blank at e
  unfold markK
  rw [if_neg (by omega), if_neg (by omega), if_neg (by omega), if_neg (by omega), if_neg (by omega), if_neg (by omega)]
theorem spells_mark {b : UInt8} (h : markK (b.toNat : Int) ≠ 0) : Spells ⟨markK (b.toNat : Int), ⟨#[]⟩, 0, 0⟩ [b] := by
  refine ⟨⟨b, [], rfl, fun e => h (blank_mark e)⟩, fun s p r hs _ => ?_⟩
  have h1 := at_list (s := s) (p := p) (b := b) (r := r) hs
  have e := h1.2.1
  rw [n_mark (by rw [e]; exact h), e]
  rfl
theorem told_of {s : ByteArray} {p : Nat} {x : UInt8} {l r : List UInt8} (h : s.data.toList.drop p = (x :: l) ++ r) : sign.Told s p (x :: l) := by
  have e : s.data.toList.length = s.size := by simp
  have hl := congrArg List.length h
  rw [List.length_drop, e, List.length_append, List.length_cons] at hl
  refine ⟨by rw [List.length_cons]; omega, ?_⟩
  apply ByteArray.ext
  apply Array.ext'
  rw [ByteArray.data_extract, Array.toList_extract, List.extract_eq_take_drop, h]
  simp
theorem spells_true : Spells ⟨9, ⟨#[]⟩, 0, 0⟩ trueL := by
  refine ⟨⟨116, _, rfl, by decide⟩, fun s p r h _ => ?_⟩
  have h1 : sign.Told s p trueW := told_of h
  rw [n_word (by rw [word_true h1]; decide), word_true h1]
  rfl
theorem spells_false : Spells ⟨10, ⟨#[]⟩, 0, 0⟩ falseL := by
  refine ⟨⟨102, _, rfl, by decide⟩, fun s p r h _ => ?_⟩
  have h1 : sign.Told s p falseW := told_of h
  have h0 : ¬ sign.Told s p trueW := fun e => by have := told_first e; rw [told_first h1] at this; exact absurd this (by decide)
  rw [n_word (by rw [word_false h0 h1]; decide), word_false h0 h1]
  rfl
theorem spells_null : Spells ⟨11, ⟨#[]⟩, 0, 0⟩ nullL := by
  refine ⟨⟨110, _, rfl, by decide⟩, fun s p r h _ => ?_⟩
  have h1 : sign.Told s p nullW := told_of h
  have h0 : ¬ sign.Told s p trueW := fun e => by have := told_first e; rw [told_first h1] at this; exact absurd this (by decide)
  have h2 : ¬ sign.Told s p falseW := fun e => by have := told_first e; rw [told_first h1] at this; exact absurd this (by decide)
  rw [n_word (by rw [word_null h0 h2 h1]; decide), word_null h0 h2 h1]
  rfl
theorem spells_quote {k : ByteArray} (h : (rune.runesF k).isSome = true) : Spells ⟨7, k, 0, 0⟩ (quoteL k) := by
  cases hl : rune.runesF k with
  | none => rw [hl] at h; cases h
  | some l =>
    have hv : ∀ x ∈ l, ∃ n : Nat, x = (n : Int) ∧ rune.valid n := fun x hx => cut_valid hl x hx
    rw [quoteL_eq hl]
    refine ⟨⟨34, _, rfl, by decide⟩, fun s p r hs _ => ?_⟩
    rw [List.cons_append, List.append_assoc] at hs
    have h1 := at_list hs
    have h2 := read_list l hv (p + 1) [] ([34] ++ r) h1.2.2
    have h3 := at_list (s := s) (p := p + 1 + (byR l).length) (b := 34) (r := r) (by rw [← List.drop_drop, h1.2.2, List.drop_left]; rfl)
    have hr := readq.in_some (h2.trans (readq.read_close h3.1 h3.2.1))
    rw [n_text h1.2.1, readq.readF_yes h1.1 h1.2.1, hr, if_neg (by simp only; omega)]
    have hk : (⟨([] ++ rune.joinL l).toArray⟩ : ByteArray) = k := by rw [List.nil_append]; exact rune.runes_join hl
    rw [hk]
    refine Prod.ext rfl ?_
    show ((p + 1 + (byR l).length + 1 : Nat) : Int) = _
    rw [List.length_cons, List.length_append, List.length_singleton]
    omega
theorem run_of' {s : ByteArray} {p : Nat} {d r : List UInt8} (h : s.data.toList.drop p = d ++ r) (hd : ∀ c ∈ d, num.isD c) (hr : Stop r) : whole.run s p = d.length ∧ whole.figs s p = d ∧ (p + d.length < s.size → at_ s (p + d.length) ≠ 46 ∧ at_ s (p + d.length) ≠ 101 ∧ at_ s (p + d.length) ≠ 69) := by
  have e : s.data.toList.length = s.size := by simp
  have h1 : whole.run s p = d.length := by
    unfold whole.run
    rw [h, split.ld_app d r (fun c hc => whole.isD_dig (hd c hc))]
    cases r with
    | nil => rfl
    | cons b t =>
      have := (hr b t rfl).1
      simp [split.ld, this]
  refine ⟨h1, ?_, fun hlt => ?_⟩
  · unfold whole.figs
    rw [h1, h]
    simp
  · have hd2 : s.data.toList.drop (p + d.length) = r := by rw [← List.drop_drop, h, List.drop_left]
    cases r with
    | nil =>
      have := congrArg List.length hd2
      rw [List.length_drop, e] at this
      simp at this
      omega
    | cons b t =>
      have h2 := (at_list hd2).2.1
      obtain ⟨_, h3, h4, h5⟩ := hr b t rfl
      omega
theorem good_of' {s : ByteArray} {p : Nat} {d r : List UInt8} (h : s.data.toList.drop p = d ++ r) (hc : whole.canon d) (hr : Stop r) : ¬ whole.bad s p := by
  obtain ⟨h1, h2, h3⟩ := run_of' h hc.2.1 hr
  unfold whole.bad
  rw [h1]
  have hne : d.length ≠ 0 := fun e => hc.1 (List.eq_nil_of_length_eq_zero e)
  rintro (hb | ⟨hb, hb2⟩ | ⟨hb, hb2⟩)
  · exact hne hb
  · rcases hc.2.2 with h5 | h5
    · omega
    · have h6 := whole.figs_get s p 0 (by omega)
      rw [h2, Nat.add_zero] at h6
      omega
  · have := h3 hb
    omega
theorem whole_back {s : ByteArray} {p : Nat} {r : List UInt8} (n : Int) (h0 : -9223372036854775808 ≤ n) (h1 : n ≤ 9223372036854775807) (h : s.data.toList.drop p = Lib.itoa n ++ r) (hr : Stop r) (hp : p < s.size) :
    whole.wholeF s (p : Int) = (n, ((p + (Lib.itoa n).length : Nat) : Int)) ∧ (at_ s p = 45 ∨ (48 ≤ at_ s p ∧ at_ s p ≤ 57)) := by
  rw [whole.whole_in hp]
  by_cases hn : 0 ≤ n
  · obtain ⟨u, rfl⟩ := Int.eq_ofNat_of_zero_le hn
    rw [num.itoa_nat] at h ⊢
    have hc := whole.dec_canon u
    obtain ⟨r1, r2, r3⟩ := run_of' h hc.2.1 hr
    have hg := good_of' h hc hr
    have hd : 48 ≤ at_ s p ∧ at_ s p ≤ 57 := by
      have hp : 0 < whole.run s p := by
        rcases Nat.eq_zero_or_pos (whole.run s p) with e0 | e0
        · exact absurd (.inl e0) hg
        · exact e0
      have := whole.run_dig (s := s) (p := p) (k := 0) hp
      rwa [Nat.add_zero] at this
    have h45 : at_ s p ≠ 45 := by omega
    refine ⟨?_, .inr hd⟩
    unfold whole.wholeN whole.head
    rw [if_neg h45, if_neg hg, if_neg h45]
    unfold whole.spells
    rw [r2, num.dec_fold, if_pos (by omega), r1]
  · have hi : Lib.itoa n = 45 :: Lib.decDigits n.natAbs := by rw [Lib.itoa, if_pos (by omega)]
    rw [hi] at h ⊢
    have hc := whole.dec_canon n.natAbs
    have h2 := at_list h
    obtain ⟨r1, r2, r3⟩ := run_of' h2.2.2 hc.2.1 hr
    have hg := good_of' h2.2.2 hc hr
    have h45 : at_ s p = 45 := h2.2.1
    refine ⟨?_, .inl h45⟩
    unfold whole.wholeN whole.head
    rw [if_pos h45, if_neg hg, if_pos h45]
    unfold whole.spells
    rw [r2, num.dec_fold, if_pos (by omega), r1]
    refine Prod.ext ?_ ?_
    · show -(n.natAbs : Int) = n
      omega
    · show ((p + 1 + (Lib.decDigits n.natAbs).length : Nat) : Int) = ((p + (45 :: Lib.decDigits n.natAbs).length : Nat) : Int)
      rw [List.length_cons]
      omega
theorem itoa_head (n : Int) : ∃ x r, Lib.itoa n = x :: r ∧ ¬ sign.blank (x.toNat : Int) := by
  unfold Lib.itoa
  split
  · exact ⟨45, _, rfl, by decide⟩
  · cases hd : Lib.decDigits n.toNat with
    | nil => exact absurd hd (num.dec_ne _)
    | cons x r =>
      have := num.dec_isD n.toNat x (by rw [hd]; exact List.mem_cons_self)
      refine ⟨x, r, rfl, ?_⟩
      unfold num.isD at this
      unfold sign.blank
      omega
theorem spells_num {n : Int} (h0 : -9223372036854775808 ≤ n) (h1 : n ≤ 9223372036854775807) : Spells ⟨8, ⟨#[]⟩, n, 0⟩ (Lib.itoa n) := by
  refine ⟨itoa_head n, fun s p r h hr => ?_⟩
  have hr := hr rfl
  obtain ⟨x, t, e, _⟩ := itoa_head n
  have hp : p < s.size := (at_list (s := s) (p := p) (b := x) (r := t ++ r) (by rw [h, e]; rfl)).1
  obtain ⟨h2, h3⟩ := whole_back n h0 h1 h hr hp
  rw [n_num h3, h2, if_neg (by simp only; omega)]

/-! Tokens in a row, each behind blanks of its own. -/
abbrev Piece := List UInt8 × Sg × List UInt8
def flat : List Piece → List UInt8
  | [] => []
  | (b0, _, b) :: L => b0 ++ (b ++ flat L)
def place : Nat → List Piece → List Sg
  | _, [] => []
  | p, (b0, g, b) :: L => { g with at_ := ((p + b0.length : Nat) : Int) } :: place (p + b0.length + b.length) L
def Blanks (b : List UInt8) : Prop := ∀ x ∈ b, sign.blank (x.toNat : Int)
def Fine (bl : List UInt8) : List Piece → Prop
  | [] => Blanks bl
  | (b0, g, b) :: L => Blanks b0 ∧ Spells g b ∧ (g.kind = 8 → Stop (flat L ++ bl)) ∧ Fine bl L
theorem skip_blanks {s : ByteArray} : ∀ (b : List UInt8) (p : Nat) (r : List UInt8) (acc : List Sg), Blanks b → s.data.toList.drop p = b ++ r → signsF s p acc = signsF s (p + b.length) acc
  | [], p, r, acc, _, _ => rfl
  | x :: b, p, r, acc, hb, h => by
    have h1 := at_list (s := s) (p := p) (b := x) (r := b ++ r) h
    rw [signs_blank h1.1 (by rw [h1.2.1]; exact hb x List.mem_cons_self), skip_blanks b (p + 1) r acc (fun y hy => hb y (List.mem_cons_of_mem _ hy)) h1.2.2, List.length_cons]
    congr 1
    omega
theorem signs_pieces {s : ByteArray} {bl : List UInt8} : ∀ (L : List Piece) (p : Nat) (acc : List Sg), Fine bl L → s.data.toList.drop p = flat L ++ bl → signsF s p acc = .ok (acc ++ place p L)
  | [], p, acc, hf, h => by
    rw [skip_blanks bl p [] acc hf (by rw [List.append_nil]; exact h)]
    rw [signs_end, place, List.append_nil]
    have e : s.data.toList.length = s.size := by simp
    have := congrArg List.length h
    rw [List.length_drop, e] at this
    simp [flat] at this
    omega
  | (b0, g, b) :: L, p, acc, ⟨h1, h2, h3, h4⟩, h => by
    rw [flat, List.append_assoc, List.append_assoc] at h
    rw [skip_blanks b0 p _ acc h1 h]
    have hd : s.data.toList.drop (p + b0.length) = b ++ (flat L ++ bl) := by rw [← List.drop_drop, h, List.drop_left]
    obtain ⟨⟨x, t, hb, hx⟩, hs⟩ := h2
    have hn := hs s _ _ hd h3
    have ha := at_list (s := s) (p := p + b0.length) (b := x) (r := t ++ (flat L ++ bl)) (by rw [hd, hb]; rfl)
    have hd2 : s.data.toList.drop (p + b0.length + b.length) = flat L ++ bl := by rw [← List.drop_drop, hd, List.drop_left]
    rw [signs_go ha.1 (by rw [ha.2.1]; exact hx) (by rw [hn]) (by rw [hb]; simp), hn, signs_pieces L _ _ h4 hd2, place, List.append_assoc]
    rfl
theorem place_append : ∀ (L M : List Piece) (p : Nat), place p (L ++ M) = place p L ++ place (p + (flat L).length) M
  | [], M, p => rfl
  | (b0, g, b) :: L, M, p => by
    rw [List.cons_append, place, place, place_append L M, flat, List.cons_append]
    congr 3
    rw [List.length_append, List.length_append]
    omega
theorem flat_append : ∀ (L M : List Piece), flat (L ++ M) = flat L ++ flat M
  | [], M => rfl
  | (b0, g, b) :: L, M => by rw [List.cons_append, flat, flat, flat_append L M, List.append_assoc, List.append_assoc]
end Go.Proofs.YtbfkkaafkinpmaaGreatDoor.tok
namespace Go.Proofs.YtbfkkaafkinpmaaGreatDoor.line
open Go.ChangeShapes Go.WideShapes Go.ChangeAt Go.RowKit
set_option linter.unusedVariables false

/-- The text of a value without kids. -/
noncomputable def tellT (k : Int) (f : Bool) (n : Int) (s : ByteArray) : ByteArray :=
  if k = 1 then ⟨#[110, 117, 108, 108]⟩
  else if k = 2 then (if f = true then ⟨#[116, 114, 117, 101]⟩ else ⟨#[102, 97, 108, 115, 101]⟩)
  else if k = 3 then ⟨(Lib.itoa n).toArray⟩
  else if k = 4 then keyT s
  else if k = 5 then ⟨#[91, 93]⟩
  else ⟨#[123, 125]⟩
open Classical in
noncomputable def tellF (t : tree.T) : Option ByteArray := if tree.Ok t ∧ t.kids = [] then some (tellT t.kind t.flag t.num t.text) else none

theorem word_none {l : List UInt8} (h : ∀ b r, l = b :: r → b ≠ 91 ∧ b ≠ 123 ∧ b ≠ 110 ∧ b ≠ 126 ∧ b ≠ 116 ∧ b ≠ 102) : wordT l = none := by
  unfold wordT
  rw [if_neg (fun e => (h _ _ e).1 rfl), if_neg (fun e => (h _ _ e).2.1 rfl), if_neg, if_neg (fun e => (h _ _ e).2.2.2.2.1 rfl), if_neg (fun e => (h _ _ e).2.2.2.2.2 rfl)]
  rintro (e | e)
  · exact (h _ _ e).2.2.1 rfl
  · exact (h _ _ e).2.2.2.1 rfl
theorem plain_no_word {s : ByteArray} (h : Plain s) : wordT s.data.toList = none := by
  have hw := h.word
  have h0 : ∀ b ∈ firsts, at_ s 0 ≠ (b.toNat : Int) := h.first
  have hne : ∀ (b : UInt8) (r : List UInt8), s.data.toList = b :: r → b ∈ firsts → False := fun b r e hb => by
    apply h0 b hb
    unfold at_
    rw [e]; rfl
  unfold wordT
  rw [if_neg (fun e => hne _ _ e (by decide)), if_neg (fun e => hne _ _ e (by decide)), if_neg, if_neg, if_neg]
  · intro e; apply hw; rw [e]; decide
  · intro e; apply hw; rw [e]; decide
  · rintro (e | e)
    · apply hw; rw [e]; decide
    · apply hw; rw [e]; decide
/-- Read to its end a plain text is no number. -/
theorem plain_no_whole {s : ByteArray} (h : Plain s) : ¬ ((whole.wholeF s 0).2 = (s.size : Int) ∧ 0 < (whole.wholeF s 0).2) := by
  rintro ⟨h1, h2⟩
  have h45 : at_ s 0 ≠ 45 := h.first 45 (by decide)
  have hw := whole.whole_in (s := s) (a := 0) h.pos
  rw [show ((0 : Nat) : Int) = 0 from rfl] at hw
  rw [hw] at h1
  have hpos := h.pos
  clear h2 hw
  unfold whole.wholeN whole.head at h1
  rw [if_neg h45, if_neg h45] at h1
  by_cases hb : whole.bad s 0
  · rw [if_pos hb] at h1
    simp only at h1
    omega
  · rw [if_neg hb] at h1
    by_cases hs : whole.spells s 0 ≤ 9223372036854775807
    · rw [if_pos hs] at h1
      have hr : whole.run s 0 = s.size := by
        simp only [Nat.zero_add] at h1
        omega
      refine h.figs fun k hk => ?_
      have := whole.run_dig (s := s) (p := 0) (k := k) (by omega)
      rwa [Nat.zero_add] at this
    · rw [if_neg hs] at h1
      simp only at h1
      omega
theorem scalar_text {s : ByteArray} (h : tree.TextOk s) : scalarF (keyT s) = some (tree.textT s) := by
  unfold scalarF keyT
  by_cases hp : plainF s = true
  · have hP := plain_iff.1 hp
    rw [if_pos hp, plain_no_word hP, Option.none_or]
    unfold valT
    rw [if_neg (fun h => plain_first hP h.2), if_neg (plain_no_whole hP), if_pos hp]
    rfl
  · rw [if_neg hp]
    obtain ⟨l, hl⟩ := Option.isSome_iff_exists.1 h.2
    obtain ⟨h1, h2, h3⟩ := quoted_front (r := []) hl (s := quote.quotedF s) (by rw [List.append_nil])
    have hw : wordT (quote.quotedF s).data.toList = none := by
      refine word_none fun b r e => ?_
      have : at_ (quote.quotedF s) 0 = (b.toNat : Int) := by unfold at_; rw [e]; rfl
      rw [h2] at this
      refine ⟨?_, ?_, ?_, ?_, ?_, ?_⟩ <;> (rintro rfl; exact absurd this (by decide))
    rw [hw, Option.none_or]
    unfold valT
    rw [if_pos ⟨h1, h2⟩, h3, if_pos ⟨rfl, h.1⟩]
    rfl
theorem scalar_num (n : Int) (h0 : -9223372036854775808 ≤ n) (h1 : n ≤ 9223372036854775807) : scalarF ⟨(Lib.itoa n).toArray⟩ = some (tree.intT n) := by
  obtain ⟨s, hs⟩ : ∃ s : ByteArray, s = ⟨(Lib.itoa n).toArray⟩ := ⟨_, rfl⟩
  have hl : s.data.toList = Lib.itoa n := by rw [hs]
  rw [← hs]
  have hpos : 0 < s.size := by
    obtain ⟨x, r, e, _⟩ := tok.itoa_head n
    rw [← len_list, hl, e]
    simp
  have hz : s.size = (Lib.itoa n).length := by rw [← len_list, hl]
  obtain ⟨hw, hc⟩ := tok.whole_back (s := s) (p := 0) (r := []) n h0 h1 (by rw [hl]; simp) tok.Stop.nil hpos
  rw [show ((0 : Nat) : Int) = 0 from rfl] at hw
  have hwd : wordT s.data.toList = none := by
    refine word_none fun b r e => ?_
    have : at_ s 0 = (b.toNat : Int) := by unfold at_; rw [e]; rfl
    rw [this] at hc
    refine ⟨?_, ?_, ?_, ?_, ?_, ?_⟩ <;> (rintro rfl; rcases hc with hc | hc <;> exact absurd hc (by decide))
  unfold scalarF
  rw [hwd, Option.none_or]
  unfold valT
  rw [if_neg (by rintro ⟨_, h⟩; omega), hw, if_pos ⟨by simp only; omega, by simp only; omega⟩]
  rfl
/-- What is told of a right value without kids is read back. -/
theorem tell_back {k : Int} {f : Bool} {n : Int} {s : ByteArray} {ks : List ByteArray} {kids : List tree.T} (h : tree.Ok (.mk k f n s ks kids)) (h2 : kids = []) (h0 : -9223372036854775808 ≤ n) (h1 : n ≤ 9223372036854775807) :
    scalarF (tellT k f n s) = some (.mk k f n s ks kids) := by
  obtain ⟨_, _, hsh⟩ := h
  rw [tree.Shape] at hsh
  obtain ⟨hf, hT, _, _⟩ := hsh
  subst h2
  obtain ⟨f1, f2, f3, f4, f5, f6, _, f8⟩ := hf
  simp only [List.length_nil] at f8
  have hks : ks = [] := by
    cases ks with
    | nil => rfl
    | cons a r =>
      have h6 := f6 (by simp)
      have := f8 h6
      simp at this
  subst hks
  have hflag : k ≠ 2 → f = false := fun e => by
    cases f with
    | false => rfl
    | true => exact absurd (f3 rfl) e
  have hnum : k ≠ 3 → n = 0 := fun e => Classical.byContradiction fun e2 => e (f4 e2)
  have htxt : k ≠ 4 → s = ⟨#[]⟩ := fun e => by
    have hz : s.size = 0 := by
      rcases Nat.eq_zero_or_pos s.size with e2 | e2
      · exact e2
      · exact absurd (f5 e2) e
    apply ba_ext
    have : s.data.toList.length = 0 := by rw [len_list]; exact hz
    rw [List.length_eq_zero_iff.1 this]
  unfold tellT
  rcases (by omega : k = 1 ∨ k = 2 ∨ k = 3 ∨ k = 4 ∨ k = 5 ∨ k = 6) with rfl | rfl | rfl | rfl | rfl | rfl
  · rw [hflag (by decide), hnum (by decide), htxt (by decide)]; rfl
  · rw [hnum (by decide), htxt (by decide)]
    cases f with
    | true => rfl
    | false => rfl
  · rw [hflag (by decide), htxt (by decide), if_neg (by decide), if_neg (by decide), if_pos rfl]
    exact scalar_num n h0 h1
  · rw [hflag (by decide), hnum (by decide), if_neg (by decide), if_neg (by decide), if_neg (by decide), if_pos rfl]
    exact scalar_text hT
  · rw [hflag (by decide), hnum (by decide), htxt (by decide)]; rfl
  · rw [hflag (by decide), hnum (by decide), htxt (by decide)]; rfl
end Go.Proofs.YtbfkkaafkinpmaaGreatDoor.line
namespace Go.Proofs.YtbfkkaafkinpmaaGreatDoor.line
open Go.ChangeShapes Go.WideShapes Go.ChangeAt Go.RowKit
set_option linter.unusedVariables false

noncomputable def tellS (t : tree.T) : ByteArray := (tellF t).getD ⟨#[]⟩
theorem tell_no {t : tree.T} (h : ¬ (tree.Ok t ∧ t.kids = [])) : tellF t = none := by unfold tellF; rw [if_neg h]
theorem tell_yes {t : tree.T} (h : tree.Ok t) (h2 : t.kids = []) : tellF t = some (tellT t.kind t.flag t.num t.text) := by unfold tellF; rw [if_pos ⟨h, h2⟩]
theorem tell_kids {k : Int} {f : Bool} {n : Int} {s : ByteArray} {ks : List ByteArray} {kids : List tree.T} (h : 0 < kids.length) : tellF (.mk k f n s ks kids) = none :=
  tell_no fun e => by
    have e2 : kids = [] := e.2
    rw [e2] at h
    exact absurd h (by decide)
theorem tell_bad {t : tree.T} (h : ¬ tree.Ok t) : tellF t = none := tell_no fun e => h e.1
theorem tell_1 {f : Bool} {n : Int} {s : ByteArray} {ks : List ByteArray} (h : tree.Ok (.mk 1 f n s ks [])) : tellF (.mk 1 f n s ks []) = some ⟨#[110, 117, 108, 108]⟩ := tell_yes h rfl
theorem tell_2 {f : Bool} {n : Int} {s : ByteArray} {ks : List ByteArray} (h : tree.Ok (.mk 2 f n s ks [])) : tellF (.mk 2 f n s ks []) = some (if f = true then ⟨#[116, 114, 117, 101]⟩ else ⟨#[102, 97, 108, 115, 101]⟩) := tell_yes h rfl
theorem tell_3 {f : Bool} {n : Int} {s : ByteArray} {ks : List ByteArray} (h : tree.Ok (.mk 3 f n s ks [])) : tellF (.mk 3 f n s ks []) = some ⟨(Lib.itoa n).toArray⟩ := tell_yes h rfl
theorem tell_4 {f : Bool} {n : Int} {s : ByteArray} {ks : List ByteArray} (h : tree.Ok (.mk 4 f n s ks [])) : tellF (.mk 4 f n s ks []) = some (keyT s) := tell_yes h rfl
theorem tell_5 {f : Bool} {n : Int} {s : ByteArray} {ks : List ByteArray} (h : tree.Ok (.mk 5 f n s ks [])) : tellF (.mk 5 f n s ks []) = some ⟨#[91, 93]⟩ := tell_yes h rfl
theorem tell_6 {f : Bool} {n : Int} {s : ByteArray} {ks : List ByteArray} (h : tree.Ok (.mk 6 f n s ks [])) : tellF (.mk 6 f n s ks []) = some ⟨#[123, 125]⟩ := tell_yes h rfl
/-- But for texts it is the braced text. -/
theorem tell_say {k : Int} {f : Bool} {n : Int} {s : ByteArray} {ks : List ByteArray} (h : tree.Ok (.mk k f n s ks [])) (h4 : k ≠ 4) : tellF (.mk k f n s ks []) = some ⟨(say.say (.mk k f n s ks [])).toArray⟩ := by
  have hk : 1 ≤ k ∧ k ≤ 6 := by
    have := h.2.2
    rw [tree.Shape] at this
    exact ⟨this.1.1, this.1.2.1⟩
  obtain rfl | rfl | rfl | rfl | rfl | rfl : k = 1 ∨ k = 2 ∨ k = 3 ∨ k = 4 ∨ k = 5 ∨ k = 6 := by omega
  · rw [tell_1 h, say.say1]; rfl
  · rw [tell_2 h, say.say2]; cases f <;> rfl
  · rw [tell_3 h, say.say3]
  · exact absurd rfl h4
  · rw [tell_5 h, say.say5]; rfl
  · rw [tell_6 h, say.say6]
    have e : List.zipWith say.pairL ks (([] : List tree.T).map say.say) = [] := by simp
    rw [e]; rfl
end Go.Proofs.YtbfkkaafkinpmaaGreatDoor.line
namespace Go.Proofs.YtbfkkaafkinpmaaGreatDoor.line
open Go.ChangeShapes Go.WideShapes Go.ChangeAt Go.RowKit
set_option linter.unusedVariables false

theorem fg_calm {n : Nat} (h : n < 16) : (quote.fg n).toNat ≠ 34 ∧ (quote.fg n).toNat ≠ 92 := by
  have : ∀ m : Fin 16, (quote.fg m.val).toNat ≠ 34 ∧ (quote.fg m.val).toNat ≠ 92 := by decide
  exact this ⟨n, h⟩
/-- Over bytes of a quoted string that are neither a quote nor a backslash. -/
theorem cmt_calm {s : ByteArray} : ∀ (l : List UInt8) (p : Nat) (r : List UInt8), (∀ b ∈ l, b.toNat ≠ 34 ∧ b.toNat ≠ 92) → s.data.toList.drop p = l ++ r → cmt s p true = cmt s (p + l.length) true ∧ s.data.toList.drop (p + l.length) = r
  | [], p, r, _, h => ⟨rfl, h⟩
  | b :: l, p, r, hl, h => by
    obtain ⟨h1, h2, h3⟩ := quote.at_list (r := l ++ r) h
    have hb := hl b (List.mem_cons_self ..)
    obtain ⟨i1, i2⟩ := cmt_calm l (p + 1) r (fun c hc => hl c (List.mem_cons_of_mem _ hc)) h3
    have e : p + (b :: l).length = p + 1 + l.length := by rw [List.length_cons]; omega
    rw [e]
    exact ⟨by rw [cmt_in h1 (by omega) (by omega)]; exact i1, i2⟩
theorem cmt_pair {s : ByteArray} {p : Nat} {c : UInt8} {l r : List UInt8} (hl : ∀ b ∈ l, b.toNat ≠ 34 ∧ b.toNat ≠ 92) (h : s.data.toList.drop p = 92 :: c :: (l ++ r)) : cmt s p true = cmt s (p + (l.length + 2)) true ∧ s.data.toList.drop (p + (l.length + 2)) = r := by
  obtain ⟨h1, h2, h3⟩ := quote.at_list h
  obtain ⟨h4, h5, h6⟩ := quote.at_list h3
  obtain ⟨i1, i2⟩ := cmt_calm l (p + 2) r hl h6
  rw [show p + (l.length + 2) = p + 2 + l.length by omega]
  exact ⟨by rw [cmt_skip h1 h2]; exact i1, i2⟩
theorem cmt_byte {s : ByteArray} {p : Nat} {b : UInt8} {r : List UInt8} (h : s.data.toList.drop p = quote.qB b ++ r) : cmt s p true = cmt s (p + (quote.qB b).length) true ∧ s.data.toList.drop (p + (quote.qB b).length) = r := by
  unfold quote.qB at h ⊢
  cases he : quote.esc b.toNat with
  | none =>
    rw [he] at h
    refine cmt_calm [b] p r ?_ h
    intro c hc
    rw [List.mem_singleton] at hc
    subst hc
    constructor
    · intro e; rw [e] at he; exact absurd he (by decide)
    · intro e; rw [e] at he; exact absurd he (by decide)
  | some l =>
    rw [he] at h
    show cmt s p true = cmt s (p + l.length) true ∧ s.data.toList.drop (p + l.length) = r
    change s.data.toList.drop p = l ++ r at h
    have hno : ∀ c ∈ ([] : List UInt8), c.toNat ≠ 34 ∧ c.toNat ≠ 92 := fun c hc => by cases hc
    unfold quote.esc at he
    repeat' split at he
    all_goals first
      | (injection he with he; subst he; exact cmt_pair hno h)
      | (injection he with he
         subst he
         refine cmt_pair (l := [48, 48, quote.fg (b.toNat / 16), quote.fg (b.toNat % 16)]) ?_ h
         intro c hc
         simp only [List.mem_cons, List.not_mem_nil, or_false] at hc
         rcases hc with rfl | rfl | rfl | rfl
         · decide
         · decide
         · exact fg_calm (by omega)
         · exact fg_calm (by omega))
      | cases he
theorem cmt_bytes {s : ByteArray} : ∀ (l : List UInt8) (p : Nat) (r : List UInt8), s.data.toList.drop p = quote.byB l ++ r → cmt s p true = cmt s (p + (quote.byB l).length) true ∧ s.data.toList.drop (p + (quote.byB l).length) = r
  | [], p, r, h => ⟨rfl, h⟩
  | b :: l, p, r, h => by
    have e : quote.byB (b :: l) = quote.qB b ++ quote.byB l := by simp [quote.byB]
    rw [e, List.append_assoc] at h
    obtain ⟨h1, h2⟩ := cmt_byte h
    obtain ⟨i1, i2⟩ := cmt_bytes l _ r h2
    rw [e, List.length_append, ← Nat.add_assoc]
    exact ⟨h1.trans i1, i2⟩
/-- Over bytes in which neither a comment nor a quoted string begins. -/
theorem cmt_flat {s : ByteArray} : ∀ (l : List UInt8) (p : Nat) (r : List UInt8), (∀ b ∈ l, b.toNat ≠ 34 ∧ b.toNat ≠ 35) → s.data.toList.drop p = l ++ r → cmt s p false = cmt s (p + l.length) false ∧ s.data.toList.drop (p + l.length) = r
  | [], p, r, _, h => ⟨rfl, h⟩
  | b :: l, p, r, hl, h => by
    obtain ⟨h1, h2, h3⟩ := quote.at_list (r := l ++ r) h
    have hb := hl b (List.mem_cons_self ..)
    obtain ⟨i1, i2⟩ := cmt_flat l (p + 1) r (fun c hc => hl c (List.mem_cons_of_mem _ hc)) h3
    have e : p + (b :: l).length = p + 1 + l.length := by rw [List.length_cons]; omega
    rw [e]
    exact ⟨by rw [cmt_on h1 (fun h => by omega) (fun h => by omega)]; exact i1, i2⟩
/-- A text that stands whole ahead of a comment. -/
structure Calm (t : ByteArray) : Prop where
  pos : 0 < t.size
  bl : at_ t 0 ≠ 32
  br : at_ t (t.size - 1) ≠ 32
  skip : ∀ (s : ByteArray) (p : Nat) (r : List UInt8), fresh s p → s.data.toList.drop p = t.data.toList ++ r → cmt s p false = cmt s (p + t.size) false ∧ s.data.toList.drop (p + t.size) = r
theorem calm_flat {t : ByteArray} (h0 : 0 < t.size) (h1 : at_ t 0 ≠ 32) (h2 : at_ t (t.size - 1) ≠ 32) (h3 : ∀ b ∈ t.data.toList, b.toNat ≠ 34 ∧ b.toNat ≠ 35) : Calm t :=
  ⟨h0, h1, h2, fun s p r _ h => by
    have := cmt_flat t.data.toList p r h3 h
    rw [len_list] at this
    exact this⟩
theorem list_at {t : ByteArray} {b : UInt8} (h : b ∈ t.data.toList) : ∃ k, k < t.size ∧ at_ t k = (b.toNat : Int) := by
  obtain ⟨k, hl, e⟩ := List.getElem_of_mem h
  exact ⟨k, by rw [len_list] at hl; exact hl, byte_at t k b (by rw [List.getElem?_eq_getElem hl, e])⟩
theorem calm_plain {t : ByteArray} (h : Plain t) : Calm t :=
  calm_flat h.pos h.bl h.br fun b hb => by
    obtain ⟨k, hk, e⟩ := list_at hb
    have := (h.all k hk).1
    rw [e] at this
    unfold odd at this
    omega
theorem calm_quoted {k : ByteArray} (h : (rune.runesF k).isSome = true) : Calm (quote.quotedF k) := by
  obtain ⟨l, hl⟩ := Option.isSome_iff_exists.1 h
  rw [quote.quoted_yes hl]
  have hz := quote.wrap_size (quote.byB k.data.toList)
  have hlst := quote.wrap_list (quote.byB k.data.toList)
  refine ⟨by omega, ?_, ?_, fun s p r hf hs => ?_⟩
  · unfold at_; rw [hlst, List.getD_cons_zero]; decide
  · unfold at_
    rw [hlst, hz]
    have : (34 :: (quote.byB k.data.toList ++ [34])).getD ((quote.byB k.data.toList).length + 2 - 1) 0 = 34 := by
      rw [show (quote.byB k.data.toList).length + 2 - 1 = (quote.byB k.data.toList).length + 1 by omega, List.getD_cons_succ]
      simp [List.getD_eq_getElem?_getD]
    rw [this]; decide
  · rw [hlst, List.cons_append, List.append_assoc] at hs
    obtain ⟨h1, h2, h3⟩ := quote.at_list hs
    obtain ⟨i1, i2⟩ := cmt_bytes k.data.toList (p + 1) ([34] ++ r) h3
    obtain ⟨h4, h5, h6⟩ := quote.at_list (b := 34) (r := r) i2
    rw [hz, show p + ((quote.byB k.data.toList).length + 2) = p + 1 + (quote.byB k.data.toList).length + 1 by omega]
    exact ⟨by rw [cmt_open h1 hf h2, i1, cmt_shut h4 h5], h6⟩
theorem calm_key {k : ByteArray} (h : (rune.runesF k).isSome = true) : Calm (keyT k) := by
  unfold keyT
  by_cases c : plainF k = true
  · rw [if_pos c]; exact calm_plain (plain_iff.1 c)
  · rw [if_neg c]; exact calm_quoted h
theorem calm_num (n : Int) : Calm ⟨(Lib.itoa n).toArray⟩ := by
  obtain ⟨t, ht⟩ : ∃ t : ByteArray, t = ⟨(Lib.itoa n).toArray⟩ := ⟨_, rfl⟩
  have hl : t.data.toList = Lib.itoa n := by rw [ht]
  rw [← ht]
  have hb : ∀ b ∈ t.data.toList, b.toNat ≠ 34 ∧ b.toNat ≠ 35 ∧ b.toNat ≠ 32 := by
    rw [hl]
    intro b hb
    have hd : ∀ u, b ∈ Lib.decDigits u → b.toNat ≠ 34 ∧ b.toNat ≠ 35 ∧ b.toNat ≠ 32 := fun u h => by
      have := num.dec_isD u b h
      unfold num.isD at this
      omega
    unfold Lib.itoa at hb
    split at hb
    · rcases List.mem_cons.1 hb with rfl | h
      · decide
      · exact hd _ h
    · exact hd _ hb
  have hpos : 0 < t.size := by
    obtain ⟨x, r, e, _⟩ := tok.itoa_head n
    rw [← len_list, hl, e]
    simp
  have hat : ∀ k, k < t.size → at_ t k ≠ 32 := fun k hk e => by
    have hk2 : k < t.data.toList.length := by rw [len_list]; exact hk
    have := byte_at t k _ (List.getElem?_eq_getElem hk2)
    have := hb _ (List.getElem_mem hk2)
    omega
  exact calm_flat hpos (hat _ hpos) (hat _ (by omega)) fun b h => ⟨(hb b h).1, (hb b h).2.1⟩
theorem calm_tell {k : Int} {f : Bool} {n : Int} {s : ByteArray} (h : (rune.runesF s).isSome = true) : Calm (tellT k f n s) := by
  unfold tellT
  repeat' split
  · exact calm_flat (by decide) (by decide) (by decide) (by decide)
  · exact calm_flat (by decide) (by decide) (by decide) (by decide)
  · exact calm_flat (by decide) (by decide) (by decide) (by decide)
  · exact calm_num n
  · exact calm_key h
  · exact calm_flat (by decide) (by decide) (by decide) (by decide)
  · exact calm_flat (by decide) (by decide) (by decide) (by decide)
/-- Spaces ahead, a remark behind. -/
theorem bare_back {t s : ByteArray} (h : Calm t) {r : List UInt8} (hs : s.data.toList = 32 :: 32 :: (t.data.toList ++ 32 :: 35 :: r)) : trimL (bare s) = t := by
  have a0 := quote.at_list (s := s) (p := 0) (b := 32) (r := 32 :: (t.data.toList ++ 32 :: 35 :: r)) (by rw [hs]; rfl)
  have a1 := quote.at_list (s := s) (p := 1) a0.2.2
  have hf : fresh s 2 := .inr a1.2.1
  obtain ⟨h1, h2⟩ := h.skip s 2 _ hf a1.2.2
  have a2 := quote.at_list h2
  have a3 := quote.at_list a2.2.2
  have hc : com s = 2 + t.size + 1 := by
    unfold com
    rw [cmt_on a0.1 (fun e => by have := a0.2.1; simp at this; omega) (fun e => by have := a0.2.1; simp at this; omega), cmt_on a1.1 (fun e => by have := a1.2.1; simp at this; omega) (fun e => by have := a1.2.1; simp at this; omega)]
    show cmt s 2 false = _
    rw [h1, cmt_on a2.1 (fun e => by have := a2.2.1; simp at this; omega) (fun e => by have := a2.2.1; simp at this; omega), cmt_here a3.1 (.inr (by rw [show 2 + t.size + 1 - 1 = 2 + t.size by omega]; exact a2.2.1)) a3.2.1]
  have hat : ∀ k, k < t.size → at_ s (2 + k) = at_ t k := fun k hk => by
    unfold at_
    have hk2 : k < t.data.toList.length := by rw [len_list]; exact hk
    rw [hs, Nat.add_comm 2 k]
    simp only [List.getD_cons_succ]
    rw [List.getD_eq_getElem?_getD, List.getElem?_append_left hk2, ← List.getD_eq_getElem?_getD]
  have hsz : s.size = 2 + t.size + 2 + r.length := by
    rw [← len_list, hs]
    simp only [List.length_cons, List.length_append, len_list]
    omega
  have hr : rt s (com s) = 2 + t.size := by
    have hpos := h.pos
    rw [hc, rt_go (by omega) (by rw [show 2 + t.size + 1 - 1 = 2 + t.size by omega]; exact a2.2.1), show 2 + t.size + 1 - 1 = 2 + t.size by omega]
    refine rt_end (.inr ?_)
    rw [show 2 + t.size - 1 = 2 + (t.size - 1) by omega, hat _ (by omega)]
    exact h.br
  have hb : (bare s).data.toList = 32 :: 32 :: t.data.toList := by
    unfold bare
    rw [hr, ex0_list, hs, Nat.add_comm 2 t.size]
    show (32 :: 32 :: (t.data.toList ++ 32 :: 35 :: r)).take (t.size + 1 + 1) = _
    rw [List.take_succ_cons, List.take_succ_cons, ← len_list t, List.take_left]
  obtain ⟨u, hu⟩ : ∃ u, u = bare s := ⟨_, rfl⟩
  rw [← hu] at hb ⊢
  apply ba_ext
  rw [trimL_list]
  have z0 : at_ u 0 = 32 := by unfold at_; rw [hb]; rfl
  have z1 : at_ u 1 = 32 := by unfold at_; rw [hb]; rfl
  have z2 : at_ u 2 = at_ t 0 := by unfold at_; rw [hb]; rfl
  have hz : u.size = t.size + 2 := by rw [← len_list, hb]; simp
  have hi : ind u = 2 := ind_end (ind_go (ind_go (Nat.zero_le _) (by omega) z0) (by omega) z1) (.inr (by rw [z2]; exact h.bl))
  rw [hi, hb]; rfl
end Go.Proofs.YtbfkkaafkinpmaaGreatDoor.line
namespace Go.Proofs.YtbfkkaafkinpmaaGreatDoor.line
open Go.ChangeShapes Go.WideShapes Go.ChangeAt Go.RowKit
set_option linter.unusedVariables false

theorem keyT_le (s : ByteArray) : (keyT s).size ≤ 6 * s.size + 2 := by
  unfold keyT
  split
  · omega
  · have h := say.quoteL_le s
    unfold say.quoteL at h
    rw [len_list] at h
    exact h
theorem tellT_le {k : Int} {f : Bool} {n : Int} {s : ByteArray} (h0 : -9223372036854775808 ≤ n) (h1 : n ≤ 9223372036854775807) (hs : s.size ≤ 400) : (tellT k f n s).size ≤ 4000 := by
  have hk := keyT_le s
  have hi := whole.itoa_le n h0 h1
  unfold tellT
  repeat' split
  · decide
  · decide
  · decide
  · omega
  · omega
  · decide
  · decide
structure ScGood (t : tree.T) (s : ByteArray) : Prop where
  tell : tellF t = some s
  le : s.size ≤ 4000
  back : scalarF s = some t
  inl : ∀ (u : ByteArray) (r : List UInt8), u.data.toList = 32 :: 32 :: (s.data.toList ++ 32 :: 35 :: r) → inlineF u = some t
  plain : t.kind = 4 → plainF t.text = true → s = t.text
theorem sc_good {t : tree.T} (h : tree.Ok t) (hk : t.kids = []) (h0 : -9223372036854775808 ≤ t.num) (h1 : t.num ≤ 9223372036854775807) : ∃ s, ScGood t s := by
  obtain ⟨k, f, n, x, ks, kids⟩ := t
  have hT : tree.TextOk x := by
    have := h.2.2
    rw [tree.Shape] at this
    exact this.2.1
  have hb := tell_back h hk h0 h1
  refine ⟨tellT k f n x, ⟨tell_yes h hk, tellT_le h0 h1 hT.1, hb, fun u r hu => ?_, fun h4 hp => ?_⟩⟩
  · unfold inlineF
    rw [bare_back (calm_tell hT.2) hu]
    exact hb
  · obtain rfl : k = 4 := h4
    show keyT x = x
    unfold keyT
    have : plainF x = true := hp
    rw [if_pos this]
end Go.Proofs.YtbfkkaafkinpmaaGreatDoor.line
