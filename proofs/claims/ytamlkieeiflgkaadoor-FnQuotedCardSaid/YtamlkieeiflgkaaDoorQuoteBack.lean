/- What Quoted writes, ReadQuoted reads back; and a few texts. -/
import Derived.Test.YtamlkieeiflgkaaDoorQuoteM
import Derived.Test.YtamlkieeiflgkaaDoorReadQM
namespace Go.Proofs.YtamlkieeiflgkaaDoor.quote
open Go Go.RowKit
set_option linter.unusedVariables false

theorem at_list {s : ByteArray} {p : Nat} {b : UInt8} {r : List UInt8} (h : s.data.toList.drop p = b :: r) : p < s.size ∧ at_ s p = (b.toNat : Int) ∧ s.data.toList.drop (p + 1) = r := by
  have e : s.data.toList.length = s.size := by simp
  have hl : (s.data.toList.drop p).length = r.length + 1 := by rw [h]; simp
  rw [List.length_drop, e] at hl
  refine ⟨by omega, ?_, ?_⟩
  · unfold at_
    have h2 : (s.data.toList.drop p).getD 0 0 = s.data.toList.getD p 0 := by simp [List.getD_eq_getElem?_getD, List.getElem?_drop]
    rw [← h2, h]
    rfl
  · rw [← List.drop_drop, h]
    rfl
theorem is_of_list {s : ByteArray} {p n : Nat} {r : List UInt8} (hv : rune.valid n) (h : s.data.toList.drop p = rune.encB n ++ r) : rune.Is s p n := by
  have e : s.data.toList.length = s.size := by simp
  have hl : (s.data.toList.drop p).length = (rune.enc n).length + r.length := by rw [h, List.length_append, rune.encB_length]
  have hpos := rune.enc_pos n
  rw [List.length_drop, e] at hl
  refine ⟨hv, by omega, fun i hi => ?_⟩
  have hlt := rune.enc_lt hv _ (List.getElem_mem hi)
  unfold at_
  have h2 : (s.data.toList.drop p).getD i 0 = s.data.toList.getD (p + i) 0 := by simp [List.getD_eq_getElem?_getD, List.getElem?_drop]
  rw [← h2, h, List.getD_eq_getElem?_getD, List.getElem?_append_left (by rw [rune.encB_length]; exact hi)]
  unfold rune.encB
  rw [List.getElem?_map, List.getElem?_eq_getElem hi, List.getD_eq_getElem?_getD, List.getElem?_eq_getElem hi]
  simp
  omega
/-- One code point's quotes are read back as it. -/
theorem step_back {s : ByteArray} {p n : Nat} {r : List UInt8} (hv : rune.valid n) (h : s.data.toList.drop p = qN n ++ r) :
    p < s.size ∧ at_ s p ≠ 34 ∧ readq.stepF s p = ((n : Int), ((p + (qN n).length : Nat) : Int)) ∧ 0 < (qN n).length := by
  cases he : esc n with
  | none =>
    have hq : qN n = rune.encB n := by unfold qN; rw [he]; rfl
    rw [hq] at h ⊢
    have hi := is_of_list hv h
    have hat := rune.at_yes hi
    have hpos := rune.enc_pos n
    have hne : n ≠ 34 ∧ n ≠ 92 ∧ 32 ≤ n := by
      refine ⟨fun e => ?_, fun e => ?_, ?_⟩
      · rw [e] at he; cases he
      · rw [e] at he; cases he
      · rcases Nat.lt_or_ge n 32 with c | c
        · unfold esc at he
          repeat' split at he
          all_goals first | (cases he; done) | omega
        · exact c
    have hb := rune.is_cases hi
    rw [rune.encB_length]
    refine ⟨by have := hi.2.1; omega, ?_, ?_, hpos⟩
    · rcases hb with hb | hb | hb | hb <;> omega
    · unfold readq.stepF
      rw [if_neg (by rcases hb with hb | hb | hb | hb <;> omega)]
      unfold readq.runeF
      rw [hat, if_neg (by simp only; omega)]
  | some l =>
    have hq : qN n = l := by unfold qN; rw [he]; rfl
    rw [hq] at h ⊢
    unfold esc at he
    -- the letters
    have two : ∀ c : UInt8, ∀ m : Nat, readq.plain (c.toNat : Int) = some (m : Int) → s.data.toList.drop p = 92 :: c :: r → p < s.size ∧ at_ s p ≠ 34 ∧ readq.stepF s p = ((m : Int), ((p + 2 : Nat) : Int)) := by
      intro c m hc hd
      obtain ⟨a1, a2, a3⟩ := at_list hd
      obtain ⟨b1, b2, _⟩ := at_list a3
      refine ⟨a1, by rw [a2]; decide, ?_⟩
      unfold readq.stepF readq.escF
      rw [if_pos ⟨a1, by rw [a2]; rfl⟩, if_pos b1, b2, hc]
    split at he
    · rename_i hn; subst hn; injection he with he; subst he
      exact ⟨(two 34 34 rfl h).1, (two 34 34 rfl h).2.1, (two 34 34 rfl h).2.2, by decide⟩
    split at he
    · rename_i hn; subst hn; injection he with he; subst he
      exact ⟨(two 92 92 rfl h).1, (two 92 92 rfl h).2.1, (two 92 92 rfl h).2.2, by decide⟩
    split at he
    · rename_i hn; subst hn; injection he with he; subst he
      exact ⟨(two 98 8 rfl h).1, (two 98 8 rfl h).2.1, (two 98 8 rfl h).2.2, by decide⟩
    split at he
    · rename_i hn; subst hn; injection he with he; subst he
      exact ⟨(two 102 12 rfl h).1, (two 102 12 rfl h).2.1, (two 102 12 rfl h).2.2, by decide⟩
    split at he
    · rename_i hn; subst hn; injection he with he; subst he
      exact ⟨(two 110 10 rfl h).1, (two 110 10 rfl h).2.1, (two 110 10 rfl h).2.2, by decide⟩
    split at he
    · rename_i hn; subst hn; injection he with he; subst he
      exact ⟨(two 114 13 rfl h).1, (two 114 13 rfl h).2.1, (two 114 13 rfl h).2.2, by decide⟩
    split at he
    · rename_i hn; subst hn; injection he with he; subst he
      exact ⟨(two 116 9 rfl h).1, (two 116 9 rfl h).2.1, (two 116 9 rfl h).2.2, by decide⟩
    split at he
    · rename_i hn
      injection he with he; subst he
      obtain ⟨a1, a2, a3⟩ := at_list h
      obtain ⟨b1, b2, b3⟩ := at_list a3
      obtain ⟨c1, c2, c3⟩ := at_list b3
      obtain ⟨d1, d2, d3⟩ := at_list c3
      obtain ⟨e1, e2, e3⟩ := at_list d3
      obtain ⟨f1, f2, f3⟩ := at_list e3
      have hf : ∀ k : Nat, k < 16 → readq.hexv ((fg k).toNat : Int) = k := by
        intro k hk
        have h := (by decide : ∀ k : Fin 16, readq.hexv ((fg k.val).toNat : Int) = (k.val : Int)) ⟨k, hk⟩
        exact h
      have hfour : readq.four s (p + 2) = (n : Int) := by
        have g1 := hf (n / 16) (by omega)
        have g2 := hf (n % 16) (by omega)
        have z0 : readq.hexv (at_ s (p + 2 + 0)) = 0 := by show readq.hexv (at_ s (p + 1 + 1)) = 0; rw [c2]; rfl
        have z1 : readq.hexv (at_ s (p + 2 + 1)) = 0 := by show readq.hexv (at_ s (p + 1 + 1 + 1)) = 0; rw [d2]; rfl
        have z2 : readq.hexv (at_ s (p + 2 + 2)) = ((n / 16 : Nat) : Int) := by show readq.hexv (at_ s (p + 1 + 1 + 1 + 1)) = _; rw [e2]; exact g1
        have z3 : readq.hexv (at_ s (p + 2 + 3)) = ((n % 16 : Nat) : Int) := by show readq.hexv (at_ s (p + 1 + 1 + 1 + 1 + 1)) = _; rw [f2]; exact g2
        have hd : readq.digs s (p + 2) 4 := by
          intro j hj
          match j, hj with
          | 0, _ => omega
          | 1, _ => omega
          | 2, _ => omega
          | 3, _ => omega
        rw [(readq.four_yes (by omega) hd).1]
        show 16 * (16 * (16 * (16 * 0 + readq.hexv (at_ s (p + 2 + 0))) + readq.hexv (at_ s (p + 2 + 1))) + readq.hexv (at_ s (p + 2 + 2))) + readq.hexv (at_ s (p + 2 + 3)) = _
        rw [z0, z1, z2, z3]
        omega
      refine ⟨a1, by rw [a2]; decide, ?_, by simp⟩
      unfold readq.stepF readq.escF
      rw [if_pos ⟨a1, by rw [a2]; rfl⟩, if_pos b1, b2]
      show readq.uF s (p + 1) = _
      unfold readq.uF
      rw [show p + 1 + 1 = p + 2 from rfl, hfour, if_neg (by omega), if_neg (by omega), if_pos (by omega)]
      rfl
    · cases he
theorem read_list {s : ByteArray} : ∀ (l : List Int), (∀ x ∈ l, ∃ n : Nat, x = (n : Int) ∧ rune.valid n) → ∀ (p : Nat) (acc r : List UInt8), s.data.toList.drop p = byR l ++ r → readq.readQ s p acc = readq.readQ s (p + (byR l).length) (acc ++ rune.joinL l)
  | [], _, p, acc, r, h => by
    show _ = readq.readQ s (p + 0) (acc ++ [])
    rw [Nat.add_zero, List.append_nil]
  | x :: l, hl, p, acc, r, h => by
    obtain ⟨n, rfl, hv⟩ := hl x (List.mem_cons_self ..)
    have hb : byR ((n : Int) :: l) = qN n ++ byR l := by simp [byR]
    rw [hb, List.append_assoc] at h
    obtain ⟨h1, h2, h3, h4⟩ := step_back hv h
    have hd : s.data.toList.drop (p + (qN n).length) = byR l ++ r := by rw [← List.drop_drop, h, List.drop_left]
    have ih := read_list l (fun y hy => hl y (List.mem_cons_of_mem _ hy)) (p + (qN n).length) (acc ++ (rune.textF (n : Int)).data.toList) r hd
    rw [readq.read_go h1 h2 h3 (by omega), ih, hb, rune.joinL_cons, List.length_append, List.append_assoc, Nat.add_assoc]
theorem wrap_size (b : List UInt8) : (wrap b).size = b.length + 2 := by
  show ((34 :: b) ++ [34]).toArray.size = _
  rw [List.size_toArray]
  simp
theorem wrap_list (b : List UInt8) : (wrap b).data.toList = 34 :: (b ++ [34]) := rfl
/-- The quoted form behind one byte and ahead of another. -/
theorem quoted_back {s : ByteArray} {l : List Int} (h : rune.runesF s = some l) : readq.readF (⟨#[120]⟩ ++ wrap (byB s.data.toList) ++ ⟨#[121]⟩) 1 = (s, 1 + ((wrap (byB s.data.toList)).size : Int)) := by
  have hv : ∀ x ∈ l, ∃ n : Nat, x = (n : Int) ∧ rune.valid n := fun x hx => cut_valid h x hx
  rw [runes_q h]
  obtain ⟨t, ht⟩ : ∃ t : ByteArray, t = ⟨#[120]⟩ ++ wrap (byR l) ++ ⟨#[121]⟩ := ⟨_, rfl⟩
  have hl : t.data.toList = 120 :: 34 :: (byR l ++ (34 :: [121])) := by rw [ht]; simp [wrap_list]
  rw [← ht]
  have h1 := at_list (s := t) (p := 1) (b := 34) (r := byR l ++ (34 :: [121])) (by rw [hl]; rfl)
  have h2 := read_list l hv 2 [] (34 :: [121]) h1.2.2
  have h3 := at_list (s := t) (p := 2 + (byR l).length) (b := 34) (r := [121]) (by rw [← List.drop_drop, h1.2.2, List.drop_left])
  have hr := readq.readF_yes (s := t) (a := 1) h1.1 h1.2.1
  rw [show ((1 : Nat) : Int) = 1 from rfl] at hr
  rw [hr, readq.in_some (h2.trans (readq.read_close h3.1 h3.2.1)), wrap_size]
  refine Prod.ext ?_ ?_
  · show (⟨([] ++ rune.joinL l).toArray⟩ : ByteArray) = s
    rw [List.nil_append]
    exact rune.runes_join h
  · show ((2 + (byR l).length + 1 : Nat) : Int) = 1 + (((byR l).length + 2 : Nat) : Int)
    omega
/-- Without the last byte nothing is read. -/
theorem quoted_open {s : ByteArray} {l : List Int} (h : rune.runesF s = some l) : (readq.readF ((wrap (byB s.data.toList)).extract 0 ((wrap (byB s.data.toList)).size - 1)) 0).2 = -1 := by
  have hv : ∀ x ∈ l, ∃ n : Nat, x = (n : Int) ∧ rune.valid n := fun x hx => cut_valid h x hx
  rw [runes_q h, wrap_size]
  obtain ⟨t, ht⟩ : ∃ t : ByteArray, t = (wrap (byR l)).extract 0 ((byR l).length + 2 - 1) := ⟨_, rfl⟩
  have hl : t.data.toList = 34 :: (byR l ++ []) := by
    rw [ht, ByteArray.data_extract, Array.toList_extract, List.extract_eq_take_drop, wrap_list, List.drop_zero, List.append_nil]
    show List.take ((byR l).length + 1) (34 :: (byR l ++ [34])) = _
    rw [List.take_succ_cons, List.take_left]
  rw [← ht]
  have h1 := at_list (s := t) (p := 0) (b := 34) (r := byR l ++ []) (by rw [hl]; rfl)
  have h2 := read_list l hv 1 [] [] h1.2.2
  have hr := readq.readF_yes (s := t) (a := 0) h1.1 h1.2.1
  rw [show ((0 : Nat) : Int) = 0 from rfl] at hr
  have hz : t.size = 1 + (byR l).length := by
    have e : t.data.toList.length = t.size := by simp
    rw [← e, hl]
    simp
    omega
  rw [hr, readq.in_none (h2.trans (readq.read_end (by omega)))]
theorem one_text : quotedF ⟨#[97]⟩ = ⟨#[34, 97, 34]⟩ := by
  have h := rune.runes_text [97]
  have hj : rune.joinF [97] = ⟨#[97]⟩ := by decide
  have hf : [(97 : Int)].filter (fun n => rune.okR n) = [97] := by decide
  rw [hj, hf] at h
  rw [quoted_yes h]
  decide
theorem pair_text : readq.readF ⟨#[34, 92, 117, 100, 56, 51, 100, 92, 117, 100, 101, 48, 48, 34]⟩ 0 = (⟨#[240, 159, 152, 128]⟩, 14) := by
  obtain ⟨t, ht⟩ : ∃ t : ByteArray, t = ⟨#[34, 92, 117, 100, 56, 51, 100, 92, 117, 100, 101, 48, 48, 34]⟩ := ⟨_, rfl⟩
  have hz : t.size = 14 := by rw [ht]; rfl
  have a0 : at_ t 0 = 34 := by rw [ht]; decide
  have a1 : at_ t 1 = 92 := by rw [ht]; decide
  have a2 : at_ t 2 = 117 := by rw [ht]; decide
  have a13 : at_ t 13 = 34 := by rw [ht]; decide
  have hu : readq.uF t 2 = (128512, 13) := by rw [ht]; decide +kernel
  have hs : readq.stepF t 1 = (128512, ((13 : Nat) : Int)) := by
    unfold readq.stepF readq.escF
    rw [if_pos ⟨by omega, a1⟩, if_pos (by omega), a2]
    exact hu
  have h1 := readq.read_go (l := []) (by omega) (by rw [a1]; decide) hs (by omega)
  have h2 := readq.read_close (s := t) (p := 13) (l := [] ++ (rune.textF 128512).data.toList) (by omega) a13
  have hr := readq.readF_yes (s := t) (a := 0) (by omega) a0
  rw [show ((0 : Nat) : Int) = 0 from rfl] at hr
  rw [← ht, hr, readq.in_some (h1.trans h2)]
  have htx : rune.textF 128512 = ⟨#[240, 159, 152, 128]⟩ := by
    refine Eq.trans (rune.text_yes (n := 128512) (by decide)) ?_
    decide
  rw [htx]
  rfl
theorem half_text : (readq.readF ⟨#[34, 92, 117, 100, 56, 51, 100, 34]⟩ 0).2 = -1 := by
  obtain ⟨t, ht⟩ : ∃ t : ByteArray, t = ⟨#[34, 92, 117, 100, 56, 51, 100, 34]⟩ := ⟨_, rfl⟩
  have hz : t.size = 8 := by rw [ht]; rfl
  have a0 : at_ t 0 = 34 := by rw [ht]; decide
  have a1 : at_ t 1 = 92 := by rw [ht]; decide
  have a2 : at_ t 2 = 117 := by rw [ht]; decide
  have hu : readq.uF t 2 = (0, -1) := by rw [ht]; decide +kernel
  have hs : readq.stepF t 1 = (0, -1) := by
    unfold readq.stepF readq.escF
    rw [if_pos ⟨by omega, a1⟩, if_pos (by omega), a2]
    exact hu
  have h1 := readq.read_bad (s := t) (p := 1) (l := []) (.inl (by rw [a1]; decide)) (by rw [hs]; decide)
  have hr := readq.readF_yes (s := t) (a := 0) (by omega) a0
  rw [show ((0 : Nat) : Int) = 0 from rfl] at hr
  rw [← ht, hr, readq.in_none h1]
end Go.Proofs.YtamlkieeiflgkaaDoor.quote
