/- Merged: WholeBack QuoteBack TokM BraceM TokT BackM TextM SgM. -/
import Derived.Test.YtlnfbpdicjcpgaaGreatDoorGSgM
import Derived.Test.YtlnfbpdicjcpgaaGreatDoorQuoteM
import Derived.Test.YtlnfbpdicjcpgaaGreatDoorGSayP
import Derived.Test.YtlnfbpdicjcpgaaGreatDoorGTree
import Derived.Test.YtlnfbpdicjcpgaaGreatDoorPutM
namespace Go.Proofs.YtlnfbpdicjcpgaaGreatDoor.whole
open Go Go.RowKit
set_option linter.unusedVariables false

theorem dec_head (u : Nat) : 1 ≤ u → ((Lib.decDigits u).getD 0 0).toNat ≠ 48 := by
  induction u using Nat.strongRecOn with
  | _ u ih =>
    intro hu
    rw [Lib.decDigits]
    by_cases h : u < 10
    · rw [dif_pos h]
      simp
      omega
    · rw [dif_neg h]
      have h1 := ih (u / 10) (by omega) (by omega)
      have h2 := num.dec_ne (u / 10)
      cases hl : Lib.decDigits (u / 10) with
      | nil => exact absurd hl h2
      | cons a r =>
        rw [hl] at h1
        simpa using h1
theorem dec_canon (u : Nat) : canon (Lib.decDigits u) := by
  refine ⟨num.dec_ne u, num.dec_isD u, ?_⟩
  by_cases h : u = 0
  · left
    subst h
    rw [Lib.decDigits, dif_pos (by decide)]
    rfl
  · exact .inr (dec_head u (by omega))
theorem isD_dig {c : UInt8} (h : num.isD c) : split.dig c = true := by
  unfold num.isD at h
  unfold split.dig
  simp
  omega
/-- A text of other bytes l, digits d, and a space. -/
theorem run_of {s : ByteArray} {p : Nat} {d : List UInt8} (h : s.data.toList.drop p = d ++ [32]) (hd : ∀ c ∈ d, num.isD c) : run s p = d.length ∧ figs s p = d ∧ p + d.length < s.size ∧ at_ s (p + d.length) = 32 := by
  have e : s.data.toList.length = s.size := by simp
  have h1 : run s p = d.length := by
    unfold run
    rw [h, split.ld_app d [32] (fun c hc => isD_dig (hd c hc))]
    rfl
  have hl : (s.data.toList.drop p).length = d.length + 1 := by rw [h]; simp
  rw [List.length_drop, e] at hl
  refine ⟨h1, ?_, by omega, ?_⟩
  · unfold figs
    rw [h1, h]
    simp
  · unfold at_
    rw [← getD_drop, h]
    simp
theorem good_of {s : ByteArray} {p : Nat} {d : List UInt8} (h : s.data.toList.drop p = d ++ [32]) (hc : canon d) : ¬ bad s p := by
  obtain ⟨h1, h2, h3, h4⟩ := run_of h hc.2.1
  unfold bad
  rw [h1]
  have hne : d.length ≠ 0 := fun e => hc.1 (List.eq_nil_of_length_eq_zero e)
  rintro (hb | ⟨hb, hb2⟩ | ⟨hb, hb2⟩)
  · exact hne hb
  · rcases hc.2.2 with h5 | h5
    · omega
    · have h6 := figs_get s p 0 (by omega)
      rw [h2, Nat.add_zero] at h6
      omega
  · omega
theorem back (n : Int) (h0 : -9223372036854775808 ≤ n) (h1 : n ≤ 9223372036854775807) : wholeF (⟨(Lib.itoa n).toArray⟩ ++ ⟨#[32]⟩) 0 = (n, ((⟨(Lib.itoa n).toArray⟩ : ByteArray).size : Int)) := by
  obtain ⟨s, hs⟩ : ∃ s : ByteArray, s = ⟨(Lib.itoa n).toArray⟩ ++ ⟨#[32]⟩ := ⟨_, rfl⟩
  have hl : s.data.toList = Lib.itoa n ++ [32] := by rw [hs]; simp
  have e : s.data.toList.length = s.size := by simp
  have hsz : s.size = (Lib.itoa n).length + 1 := by rw [← e, hl]; simp
  have hz : (⟨(Lib.itoa n).toArray⟩ : ByteArray).size = (Lib.itoa n).length := by show (Lib.itoa n).toArray.size = _; rw [List.size_toArray]
  rw [← hs, hz]
  have hin := whole_in (s := s) (a := 0) (by omega)
  rw [show ((0 : Nat) : Int) = 0 from rfl] at hin
  rw [hin]
  by_cases hn : 0 ≤ n
  · obtain ⟨u, rfl⟩ := Int.eq_ofNat_of_zero_le hn
    rw [num.itoa_nat] at hl ⊢
    have hc := dec_canon u
    have hd : s.data.toList.drop 0 = Lib.decDigits u ++ [32] := by rw [List.drop_zero, hl]
    obtain ⟨r1, r2, r3, r4⟩ := run_of hd hc.2.1
    have hg := good_of hd hc
    have h45 : at_ s 0 ≠ 45 := by
      have hp : 0 < run s 0 := by
        rcases Nat.eq_zero_or_pos (run s 0) with e0 | e0
        · exact absurd (.inl e0) hg
        · exact e0
      have := run_dig (s := s) (p := 0) (k := 0) hp
      rw [Nat.add_zero] at this
      omega
    unfold wholeN head
    rw [if_neg h45, if_neg hg, if_neg h45]
    unfold spells
    rw [r2, num.dec_fold, if_pos (by omega), r1, Nat.zero_add]
  · have hi : Lib.itoa n = 45 :: Lib.decDigits n.natAbs := by rw [Lib.itoa, if_pos (by omega)]
    rw [hi] at hl ⊢
    have hc := dec_canon n.natAbs
    have hd : s.data.toList.drop 1 = Lib.decDigits n.natAbs ++ [32] := by rw [hl]; rfl
    obtain ⟨r1, r2, r3, r4⟩ := run_of hd hc.2.1
    have hg := good_of hd hc
    have h45 : at_ s 0 = 45 := by unfold at_; rw [hl]; rfl
    unfold wholeN head
    rw [if_pos h45, Nat.zero_add, if_neg hg, if_pos h45]
    unfold spells
    rw [r2, num.dec_fold, if_pos (by omega), r1]
    refine Prod.ext ?_ ?_
    · show -(n.natAbs : Int) = n
      omega
    · show ((1 + (Lib.decDigits n.natAbs).length : Nat) : Int) = ((45 :: Lib.decDigits n.natAbs).length : Int)
      rw [List.length_cons]
      omega
theorem itoa_le (n : Int) (h0 : -9223372036854775808 ≤ n) (h1 : n ≤ 9223372036854775807) : (⟨(Lib.itoa n).toArray⟩ : ByteArray).size ≤ 20 := by
  by_cases hn : 0 ≤ n
  · obtain ⟨_, _, _, h⟩ := readnum.pos_yes n hn h1
    exact h
  · exact readnum.neg_len n (by omega) h0
theorem least_w : wholeF ⟨#[45, 57, 50, 50, 51, 51, 55, 50, 48, 51, 54, 56, 53, 52, 55, 55, 53, 56, 48, 56]⟩ 0 = (-9223372036854775808, 20) := by decide +kernel
theorem part_w : wholeF ⟨#[49, 46, 53]⟩ 0 = (0, -1) := by decide +kernel
theorem power_w : wholeF ⟨#[49, 101, 51]⟩ 0 = (0, -1) := by decide +kernel
theorem nought_w : wholeF ⟨#[48, 49]⟩ 0 = (0, -1) := by decide +kernel
theorem above_w : wholeF ⟨#[57, 50, 50, 51, 51, 55, 50, 48, 51, 54, 56, 53, 52, 55, 55, 53, 56, 48, 56]⟩ 0 = (0, -1) := by decide +kernel
end Go.Proofs.YtlnfbpdicjcpgaaGreatDoor.whole
namespace Go.Proofs.YtlnfbpdicjcpgaaGreatDoor.quote
open Go Go.RowKit
set_option linter.unusedVariables false

theorem at_list {s : ByteArray} {p : Nat} {b : UInt8} {r : List UInt8} (h : s.data.toList.drop p = b :: r) : p < s.size ∧ at_ s p = (b.toNat : Int) ∧ s.data.toList.drop (p + 1) = r := by
  have e : s.data.toList.length = s.size := by simp
  have hl : (s.data.toList.drop p).length = r.length + 1 := by rw [h]; simp
  rw [List.length_drop, e] at hl
  refine ⟨by omega, ?_, ?_⟩
  · unfold at_
    have h2 : (s.data.toList.drop p).getD 0 0 = s.data.toList.getD p 0 := by simp [List.getD_eq_getElem?_getD, List.getElem?_drop]
    rw [← h2, h]
    rfl
  · rw [← List.drop_drop, h]
    rfl
theorem is_of_list {s : ByteArray} {p n : Nat} {r : List UInt8} (hv : rune.valid n) (h : s.data.toList.drop p = rune.encB n ++ r) : rune.Is s p n := by
  have e : s.data.toList.length = s.size := by simp
  have hl : (s.data.toList.drop p).length = (rune.enc n).length + r.length := by rw [h, List.length_append, rune.encB_length]
  have hpos := rune.enc_pos n
  rw [List.length_drop, e] at hl
  refine ⟨hv, by omega, fun i hi => ?_⟩
  have hlt := rune.enc_lt hv _ (List.getElem_mem hi)
  unfold at_
  have h2 : (s.data.toList.drop p).getD i 0 = s.data.toList.getD (p + i) 0 := by simp [List.getD_eq_getElem?_getD, List.getElem?_drop]
  rw [← h2, h, List.getD_eq_getElem?_getD, List.getElem?_append_left (by rw [rune.encB_length]; exact hi)]
  unfold rune.encB
  rw [List.getElem?_map, List.getElem?_eq_getElem hi, List.getD_eq_getElem?_getD, List.getElem?_eq_getElem hi]
  simp
  omega
/-- One code point's quotes are read back as it. -/
theorem step_back {s : ByteArray} {p n : Nat} {r : List UInt8} (hv : rune.valid n) (h : s.data.toList.drop p = qN n ++ r) :
    p < s.size ∧ at_ s p ≠ 34 ∧ readq.stepF s p = ((n : Int), ((p + (qN n).length : Nat) : Int)) ∧ 0 < (qN n).length := by
  cases he : esc n with
  | none =>
    have hq : qN n = rune.encB n := by unfold qN; rw [he]; rfl
    rw [hq] at h ⊢
    have hi := is_of_list hv h
    have hat := rune.at_yes hi
    have hpos := rune.enc_pos n
    have hne : n ≠ 34 ∧ n ≠ 92 ∧ 32 ≤ n := by
      refine ⟨fun e => ?_, fun e => ?_, ?_⟩
      · rw [e] at he; cases he
      · rw [e] at he; cases he
      · rcases Nat.lt_or_ge n 32 with c | c
        · unfold esc at he
          repeat' split at he
          all_goals first | (cases he; done) | omega
        · exact c
    have hb := rune.is_cases hi
    rw [rune.encB_length]
    refine ⟨by have := hi.2.1; omega, ?_, ?_, hpos⟩
    · rcases hb with hb | hb | hb | hb <;> omega
    · unfold readq.stepF
      rw [if_neg (by rcases hb with hb | hb | hb | hb <;> omega)]
      unfold readq.runeF
      rw [hat, if_neg (by simp only; omega)]
  | some l =>
    have hq : qN n = l := by unfold qN; rw [he]; rfl
    rw [hq] at h ⊢
    unfold esc at he
    -- the letters
    have two : ∀ c : UInt8, ∀ m : Nat, readq.plain (c.toNat : Int) = some (m : Int) → s.data.toList.drop p = 92 :: c :: r → p < s.size ∧ at_ s p ≠ 34 ∧ readq.stepF s p = ((m : Int), ((p + 2 : Nat) : Int)) := by
      intro c m hc hd
      obtain ⟨a1, a2, a3⟩ := at_list hd
      obtain ⟨b1, b2, _⟩ := at_list a3
      refine ⟨a1, by rw [a2]; decide, ?_⟩
      unfold readq.stepF readq.escF
      rw [if_pos ⟨a1, by rw [a2]; rfl⟩, if_pos b1, b2, hc]
    split at he
    · rename_i hn; subst hn; injection he with he; subst he
      exact ⟨(two 34 34 rfl h).1, (two 34 34 rfl h).2.1, (two 34 34 rfl h).2.2, by decide⟩
    split at he
    · rename_i hn; subst hn; injection he with he; subst he
      exact ⟨(two 92 92 rfl h).1, (two 92 92 rfl h).2.1, (two 92 92 rfl h).2.2, by decide⟩
    split at he
    · rename_i hn; subst hn; injection he with he; subst he
      exact ⟨(two 98 8 rfl h).1, (two 98 8 rfl h).2.1, (two 98 8 rfl h).2.2, by decide⟩
    split at he
    · rename_i hn; subst hn; injection he with he; subst he
      exact ⟨(two 102 12 rfl h).1, (two 102 12 rfl h).2.1, (two 102 12 rfl h).2.2, by decide⟩
    split at he
    · rename_i hn; subst hn; injection he with he; subst he
      exact ⟨(two 110 10 rfl h).1, (two 110 10 rfl h).2.1, (two 110 10 rfl h).2.2, by decide⟩
    split at he
    · rename_i hn; subst hn; injection he with he; subst he
      exact ⟨(two 114 13 rfl h).1, (two 114 13 rfl h).2.1, (two 114 13 rfl h).2.2, by decide⟩
    split at he
    · rename_i hn; subst hn; injection he with he; subst he
      exact ⟨(two 116 9 rfl h).1, (two 116 9 rfl h).2.1, (two 116 9 rfl h).2.2, by decide⟩
    split at he
    · rename_i hn
      injection he with he; subst he
      obtain ⟨a1, a2, a3⟩ := at_list h
      obtain ⟨b1, b2, b3⟩ := at_list a3
      obtain ⟨c1, c2, c3⟩ := at_list b3
      obtain ⟨d1, d2, d3⟩ := at_list c3
      obtain ⟨e1, e2, e3⟩ := at_list d3
      obtain ⟨f1, f2, f3⟩ := at_list e3
      have hf : ∀ k : Nat, k < 16 → readq.hexv ((fg k).toNat : Int) = k := by
        intro k hk
        have h := (by decide : ∀ k : Fin 16, readq.hexv ((fg k.val).toNat : Int) = (k.val : Int)) ⟨k, hk⟩
        exact h
      have hfour : readq.four s (p + 2) = (n : Int) := by
        have g1 := hf (n / 16) (by omega)
        have g2 := hf (n % 16) (by omega)
        have z0 : readq.hexv (at_ s (p + 2 + 0)) = 0 := by show readq.hexv (at_ s (p + 1 + 1)) = 0; rw [c2]; rfl
        have z1 : readq.hexv (at_ s (p + 2 + 1)) = 0 := by show readq.hexv (at_ s (p + 1 + 1 + 1)) = 0; rw [d2]; rfl
        have z2 : readq.hexv (at_ s (p + 2 + 2)) = ((n / 16 : Nat) : Int) := by show readq.hexv (at_ s (p + 1 + 1 + 1 + 1)) = _; rw [e2]; exact g1
        have z3 : readq.hexv (at_ s (p + 2 + 3)) = ((n % 16 : Nat) : Int) := by show readq.hexv (at_ s (p + 1 + 1 + 1 + 1 + 1)) = _; rw [f2]; exact g2
        have hd : readq.digs s (p + 2) 4 := by
          intro j hj
          match j, hj with
          | 0, _ => omega
          | 1, _ => omega
          | 2, _ => omega
          | 3, _ => omega
        rw [(readq.four_yes (by omega) hd).1]
        show 16 * (16 * (16 * (16 * 0 + readq.hexv (at_ s (p + 2 + 0))) + readq.hexv (at_ s (p + 2 + 1))) + readq.hexv (at_ s (p + 2 + 2))) + readq.hexv (at_ s (p + 2 + 3)) = _
        rw [z0, z1, z2, z3]
        omega
      refine ⟨a1, by rw [a2]; decide, ?_, by simp⟩
      unfold readq.stepF readq.escF
      rw [if_pos ⟨a1, by rw [a2]; rfl⟩, if_pos b1, b2]
      show readq.uF s (p + 1) = _
      unfold readq.uF
      rw [show p + 1 + 1 = p + 2 from rfl, hfour, if_neg (by omega), if_neg (by omega), if_pos (by omega)]
      rfl
    · cases he
theorem read_list {s : ByteArray} : ∀ (l : List Int), (∀ x ∈ l, ∃ n : Nat, x = (n : Int) ∧ rune.valid n) → ∀ (p : Nat) (acc r : List UInt8), s.data.toList.drop p = byR l ++ r → readq.readQ s p acc = readq.readQ s (p + (byR l).length) (acc ++ rune.joinL l)
  | [], _, p, acc, r, h => by
    show _ = readq.readQ s (p + 0) (acc ++ [])
    rw [Nat.add_zero, List.append_nil]
  | x :: l, hl, p, acc, r, h => by
    obtain ⟨n, rfl, hv⟩ := hl x (List.mem_cons_self ..)
    have hb : byR ((n : Int) :: l) = qN n ++ byR l := by simp [byR]
    rw [hb, List.append_assoc] at h
    obtain ⟨h1, h2, h3, h4⟩ := step_back hv h
    have hd : s.data.toList.drop (p + (qN n).length) = byR l ++ r := by rw [← List.drop_drop, h, List.drop_left]
    have ih := read_list l (fun y hy => hl y (List.mem_cons_of_mem _ hy)) (p + (qN n).length) (acc ++ (rune.textF (n : Int)).data.toList) r hd
    rw [readq.read_go h1 h2 h3 (by omega), ih, hb, rune.joinL_cons, List.length_append, List.append_assoc, Nat.add_assoc]
theorem wrap_size (b : List UInt8) : (wrap b).size = b.length + 2 := by
  show ((34 :: b) ++ [34]).toArray.size = _
  rw [List.size_toArray]
  simp
theorem wrap_list (b : List UInt8) : (wrap b).data.toList = 34 :: (b ++ [34]) := rfl
/-- The quoted form behind one byte and ahead of another. -/
theorem quoted_back {s : ByteArray} {l : List Int} (h : rune.runesF s = some l) : readq.readF (⟨#[120]⟩ ++ wrap (byB s.data.toList) ++ ⟨#[121]⟩) 1 = (s, 1 + ((wrap (byB s.data.toList)).size : Int)) := by
  have hv : ∀ x ∈ l, ∃ n : Nat, x = (n : Int) ∧ rune.valid n := fun x hx => cut_valid h x hx
  rw [runes_q h]
  obtain ⟨t, ht⟩ : ∃ t : ByteArray, t = ⟨#[120]⟩ ++ wrap (byR l) ++ ⟨#[121]⟩ := ⟨_, rfl⟩
  have hl : t.data.toList = 120 :: 34 :: (byR l ++ (34 :: [121])) := by rw [ht]; simp [wrap_list]
  rw [← ht]
  have h1 := at_list (s := t) (p := 1) (b := 34) (r := byR l ++ (34 :: [121])) (by rw [hl]; rfl)
  have h2 := read_list l hv 2 [] (34 :: [121]) h1.2.2
  have h3 := at_list (s := t) (p := 2 + (byR l).length) (b := 34) (r := [121]) (by rw [← List.drop_drop, h1.2.2, List.drop_left])
  have hr := readq.readF_yes (s := t) (a := 1) h1.1 h1.2.1
  rw [show ((1 : Nat) : Int) = 1 from rfl] at hr
  rw [hr, readq.in_some (h2.trans (readq.read_close h3.1 h3.2.1)), wrap_size]
  refine Prod.ext ?_ ?_
  · show (⟨([] ++ rune.joinL l).toArray⟩ : ByteArray) = s
    rw [List.nil_append]
    exact rune.runes_join h
  · show ((2 + (byR l).length + 1 : Nat) : Int) = 1 + (((byR l).length + 2 : Nat) : Int)
    omega
/-- Without the last byte nothing is read. -/
theorem quoted_open {s : ByteArray} {l : List Int} (h : rune.runesF s = some l) : (readq.readF ((wrap (byB s.data.toList)).extract 0 ((wrap (byB s.data.toList)).size - 1)) 0).2 = -1 := by
  have hv : ∀ x ∈ l, ∃ n : Nat, x = (n : Int) ∧ rune.valid n := fun x hx => cut_valid h x hx
  rw [runes_q h, wrap_size]
  obtain ⟨t, ht⟩ : ∃ t : ByteArray, t = (wrap (byR l)).extract 0 ((byR l).length + 2 - 1) := ⟨_, rfl⟩
  have hl : t.data.toList = 34 :: (byR l ++ []) := by
    rw [ht, ByteArray.data_extract, Array.toList_extract, List.extract_eq_take_drop, wrap_list, List.drop_zero, List.append_nil]
    show List.take ((byR l).length + 1) (34 :: (byR l ++ [34])) = _
    rw [List.take_succ_cons, List.take_left]
  rw [← ht]
  have h1 := at_list (s := t) (p := 0) (b := 34) (r := byR l ++ []) (by rw [hl]; rfl)
  have h2 := read_list l hv 1 [] [] h1.2.2
  have hr := readq.readF_yes (s := t) (a := 0) h1.1 h1.2.1
  rw [show ((0 : Nat) : Int) = 0 from rfl] at hr
  have hz : t.size = 1 + (byR l).length := by
    have e : t.data.toList.length = t.size := by simp
    rw [← e, hl]
    simp
    omega
  rw [hr, readq.in_none (h2.trans (readq.read_end (by omega)))]
theorem one_text : quotedF ⟨#[97]⟩ = ⟨#[34, 97, 34]⟩ := by
  have h := rune.runes_text [97]
  have hj : rune.joinF [97] = ⟨#[97]⟩ := by decide
  have hf : [(97 : Int)].filter (fun n => rune.okR n) = [97] := by decide
  rw [hj, hf] at h
  rw [quoted_yes h]
  decide
theorem pair_text : readq.readF ⟨#[34, 92, 117, 100, 56, 51, 100, 92, 117, 100, 101, 48, 48, 34]⟩ 0 = (⟨#[240, 159, 152, 128]⟩, 14) := by
  obtain ⟨t, ht⟩ : ∃ t : ByteArray, t = ⟨#[34, 92, 117, 100, 56, 51, 100, 92, 117, 100, 101, 48, 48, 34]⟩ := ⟨_, rfl⟩
  have hz : t.size = 14 := by rw [ht]; rfl
  have a0 : at_ t 0 = 34 := by rw [ht]; decide
  have a1 : at_ t 1 = 92 := by rw [ht]; decide
  have a2 : at_ t 2 = 117 := by rw [ht]; decide
  have a13 : at_ t 13 = 34 := by rw [ht]; decide
  have hu : readq.uF t 2 = (128512, 13) := by rw [ht]; decide +kernel
  have hs : readq.stepF t 1 = (128512, ((13 : Nat) : Int)) := by
    unfold readq.stepF readq.escF
    rw [if_pos ⟨by omega, a1⟩, if_pos (by omega), a2]
    exact hu
  have h1 := readq.read_go (l := []) (by omega) (by rw [a1]; decide) hs (by omega)
  have h2 := readq.read_close (s := t) (p := 13) (l := [] ++ (rune.textF 128512).data.toList) (by omega) a13
  have hr := readq.readF_yes (s := t) (a := 0) (by omega) a0
  rw [show ((0 : Nat) : Int) = 0 from rfl] at hr
  rw [← ht, hr, readq.in_some (h1.trans h2)]
  have htx : rune.textF 128512 = ⟨#[240, 159, 152, 128]⟩ := by
    refine Eq.trans (rune.text_yes (n := 128512) (by decide)) ?_
    decide
  rw [htx]
  rfl
theorem half_text : (readq.readF ⟨#[34, 92, 117, 100, 56, 51, 100, 34]⟩ 0).2 = -1 := by
  obtain ⟨t, ht⟩ : ∃ t : ByteArray, t = ⟨#[34, 92, 117, 100, 56, 51, 100, 34]⟩ := ⟨_, rfl⟩
  have hz : t.size = 8 := by rw [ht]; rfl
  have a0 : at_ t 0 = 34 := by rw [ht]; decide
  have a1 : at_ t 1 = 92 := by rw [ht]; decide
  have a2 : at_ t 2 = 117 := by rw [ht]; decide
  have hu : readq.uF t 2 = (0, -1) := by rw [ht]; decide +kernel
  have hs : readq.stepF t 1 = (0, -1) := by
    unfold readq.stepF readq.escF
    rw [if_pos ⟨by omega, a1⟩, if_pos (by omega), a2]
    exact hu
  have h1 := readq.read_bad (s := t) (p := 1) (l := []) (.inl (by rw [a1]; decide)) (by rw [hs]; decide)
  have hr := readq.readF_yes (s := t) (a := 0) (by omega) a0
  rw [show ((0 : Nat) : Int) = 0 from rfl] at hr
  rw [← ht, hr, readq.in_none h1]
end Go.Proofs.YtlnfbpdicjcpgaaGreatDoor.quote
namespace Go.Proofs.YtlnfbpdicjcpgaaGreatDoor.tok
open Go Go.RowKit tree sign say quote
set_option linter.unusedVariables false

/-! Valid UTF-8. -/
def U (b : List UInt8) : Prop := ∃ l : List Nat, (∀ n ∈ l, rune.valid n) ∧ b = l.flatMap rune.encB
theorem U.nil : U [] := ⟨[], by simp, rfl⟩
theorem U.append {a b : List UInt8} : U a → U b → U (a ++ b)
  | ⟨l, h1, h2⟩, ⟨m, h3, h4⟩ => ⟨l ++ m, fun n hn => by rcases List.mem_append.1 hn with h | h; exact h1 n h; exact h3 n h, by rw [h2, h4, List.flatMap_append]⟩
theorem U.ascii {b : UInt8} (h : b.toNat < 128) : U [b] := ⟨[b.toNat], fun n hn => by rw [List.mem_singleton] at hn; subst hn; exact .inl (by omega), by
  have e : rune.encB b.toNat = [UInt8.ofNat b.toNat] := by unfold rune.encB; rw [rune.enc1 h]; rfl
  rw [List.flatMap_cons, e]
  simp⟩
theorem U.asciis : ∀ {b : List UInt8}, (∀ x ∈ b, x.toNat < 128) → U b
  | [], _ => U.nil
  | x :: r, h => U.append (a := [x]) (U.ascii (h x List.mem_cons_self)) (U.asciis fun y hy => h y (List.mem_cons_of_mem _ hy))
theorem bad_none {s : ByteArray} : ∀ (l : List Nat) (p : Nat), (∀ n ∈ l, rune.valid n) → s.data.toList.drop p = l.flatMap rune.encB → badAt s p = none
  | [], p, _, h => bad_end (by
      have := congrArg List.length h
      have e : s.data.toList.length = s.size := by simp
      rw [List.length_drop, e] at this
      simp at this; omega)
  | n :: l, p, hv, h => by
    rw [List.flatMap_cons] at h
    have hi := is_of_list (hv n List.mem_cons_self) h
    have hp := rune.enc_pos n
    have h2 := rune.at_yes hi
    have hd : s.data.toList.drop (p + (rune.enc n).length) = l.flatMap rune.encB := by rw [← List.drop_drop, h, ← rune.encB_length, List.drop_left]
    rw [bad_go (by have := hi.2.1; omega) (by rw [h2]) (by omega)]
    exact bad_none l _ (fun m hm => hv m (List.mem_cons_of_mem _ hm)) hd
theorem U.bad {s : ByteArray} (h : U s.data.toList) : badAt s 0 = none := by
  obtain ⟨l, h1, h2⟩ := h
  exact bad_none l 0 h1 (by rw [List.drop_zero]; exact h2)
theorem esc_ascii {n : Nat} {l : List UInt8} (h : esc n = some l) : ∀ x ∈ l, x.toNat < 128 := by
  have hf : ∀ k, k < 16 → (fg k).toNat < 128 := by decide
  unfold esc at h
  repeat' split at h
  all_goals first
    | cases h; done
    | (injection h with h; subst h; intro x hx; simp only [List.mem_cons, List.not_mem_nil, or_false] at hx; rcases hx with rfl | rfl <;> decide)
    | (injection h with h; subst h; intro x hx; simp only [List.mem_cons, List.not_mem_nil, or_false] at hx; rcases hx with rfl | rfl | rfl | rfl | rfl | rfl
       · decide
       · decide
       · decide
       · decide
       · exact hf _ (by omega)
       · exact hf _ (by omega))
theorem U.q {n : Nat} (h : rune.valid n) : U (qN n) := by
  unfold qN
  cases he : esc n with
  | none => exact ⟨[n], fun m hm => by rw [List.mem_singleton] at hm; subst hm; exact h, by simp⟩
  | some l => exact U.asciis (esc_ascii he)
theorem U.byR : ∀ {l : List Int}, (∀ x ∈ l, ∃ n : Nat, x = (n : Int) ∧ rune.valid n) → U (quote.byR l)
  | [], _ => U.nil
  | x :: l, h => by
    obtain ⟨n, rfl, hv⟩ := h x List.mem_cons_self
    have hb : quote.byR ((n : Int) :: l) = qN n ++ quote.byR l := by simp [quote.byR]
    rw [hb]
    exact U.append (U.q hv) (U.byR fun y hy => h y (List.mem_cons_of_mem _ hy))
theorem quoteL_eq {s : ByteArray} {l : List Int} (h : rune.runesF s = some l) : quoteL s = 34 :: (quote.byR l ++ [34]) := by
  unfold quoteL
  rw [quoted_yes h, runes_q h]
  rfl
theorem U.quote {s : ByteArray} (h : (rune.runesF s).isSome = true) : U (quoteL s) := by
  cases hl : rune.runesF s with
  | none => rw [hl] at h; cases h
  | some l =>
    rw [quoteL_eq hl]
    exact U.append (a := [34]) (U.ascii (by decide)) (U.append (U.byR fun x hx => cut_valid hl x hx) (U.ascii (by decide)))
theorem U.dec (u : Nat) : U (Lib.decDigits u) := U.asciis fun x hx => by have := num.dec_isD u x hx; unfold num.isD at this; omega
theorem U.itoa (n : Int) : U (Lib.itoa n) := by
  unfold Lib.itoa
  split
  · exact U.append (a := [45]) (U.ascii (by decide)) (U.dec _)
  · exact U.dec _

/-! One token. -/
/-- What may follow a number. -/
def Stop (r : List UInt8) : Prop := ∀ b t, r = b :: t → split.dig b = false ∧ b.toNat ≠ 46 ∧ b.toNat ≠ 101 ∧ b.toNat ≠ 69
theorem Stop.nil : Stop [] := fun b t h => by cases h
theorem Stop.cons {b : UInt8} {r : List UInt8} (h : b.toNat = 32 ∨ b.toNat = 9 ∨ b.toNat = 10 ∨ b.toNat = 13 ∨ b.toNat = 44 ∨ b.toNat = 93 ∨ b.toNat = 125 ∨ b.toNat = 58) : Stop (b :: r) := fun c t e => by
  injection e with e1 e2
  subst e1
  refine ⟨?_, by omega, by omega, by omega⟩
  unfold split.dig
  simp
  omega
/-- Wherever b stands ahead of what may follow a number, the sign is g. -/
def Spells (g : Sg) (b : List UInt8) : Prop := (∃ x r, b = x :: r ∧ ¬ sign.blank (x.toNat : Int)) ∧ ∀ (s : ByteArray) (p : Nat) (r : List UInt8), s.data.toList.drop p = b ++ r → (g.kind = 8 → Stop r) → signN s p = ({ g with at_ := (p : Int) }, ((p + b.length : Nat) : Int))
theorem blank_mark {x : Int} (e : sign.blank x) : markK x = 0 := by
  unfold sign.blank at e
  unfold markK
  rw [if_neg (by omega), if_neg (by omega), if_neg (by omega), if_neg (by omega), if_neg (by omega), if_neg (by omega)]
theorem spells_mark {b : UInt8} (h : markK (b.toNat : Int) ≠ 0) : Spells ⟨markK (b.toNat : Int), ⟨#[]⟩, 0, 0⟩ [b] := by
  refine ⟨⟨b, [], rfl, fun e => h (blank_mark e)⟩, fun s p r hs _ => ?_⟩
  have h1 := at_list (s := s) (p := p) (b := b) (r := r) hs
  have e := h1.2.1
  rw [n_mark (by rw [e]; exact h), e]
  rfl
theorem told_of {s : ByteArray} {p : Nat} {x : UInt8} {l r : List UInt8} (h : s.data.toList.drop p = (x :: l) ++ r) : sign.Told s p (x :: l) := by
  have e : s.data.toList.length = s.size := by simp
  have hl := congrArg List.length h
  rw [List.length_drop, e, List.length_append, List.length_cons] at hl
  refine ⟨by rw [List.length_cons]; omega, ?_⟩
  apply ByteArray.ext
  apply Array.ext'
  rw [ByteArray.data_extract, Array.toList_extract, List.extract_eq_take_drop, h]
  simp
theorem spells_true : Spells ⟨9, ⟨#[]⟩, 0, 0⟩ trueL := by
  refine ⟨⟨116, _, rfl, by decide⟩, fun s p r h _ => ?_⟩
  have h1 : sign.Told s p trueW := told_of h
  rw [n_word (by rw [word_true h1]; decide), word_true h1]
  rfl
theorem spells_false : Spells ⟨10, ⟨#[]⟩, 0, 0⟩ falseL := by
  refine ⟨⟨102, _, rfl, by decide⟩, fun s p r h _ => ?_⟩
  have h1 : sign.Told s p falseW := told_of h
  have h0 : ¬ sign.Told s p trueW := fun e => by have := told_first e; rw [told_first h1] at this; exact absurd this (by decide)
  rw [n_word (by rw [word_false h0 h1]; decide), word_false h0 h1]
  rfl
theorem spells_null : Spells ⟨11, ⟨#[]⟩, 0, 0⟩ nullL := by
  refine ⟨⟨110, _, rfl, by decide⟩, fun s p r h _ => ?_⟩
  have h1 : sign.Told s p nullW := told_of h
  have h0 : ¬ sign.Told s p trueW := fun e => by have := told_first e; rw [told_first h1] at this; exact absurd this (by decide)
  have h2 : ¬ sign.Told s p falseW := fun e => by have := told_first e; rw [told_first h1] at this; exact absurd this (by decide)
  rw [n_word (by rw [word_null h0 h2 h1]; decide), word_null h0 h2 h1]
  rfl
theorem spells_quote {k : ByteArray} (h : (rune.runesF k).isSome = true) : Spells ⟨7, k, 0, 0⟩ (quoteL k) := by
  cases hl : rune.runesF k with
  | none => rw [hl] at h; cases h
  | some l =>
    have hv : ∀ x ∈ l, ∃ n : Nat, x = (n : Int) ∧ rune.valid n := fun x hx => cut_valid hl x hx
    rw [quoteL_eq hl]
    refine ⟨⟨34, _, rfl, by decide⟩, fun s p r hs _ => ?_⟩
    rw [List.cons_append, List.append_assoc] at hs
    have h1 := at_list hs
    have h2 := read_list l hv (p + 1) [] ([34] ++ r) h1.2.2
    have h3 := at_list (s := s) (p := p + 1 + (byR l).length) (b := 34) (r := r) (by rw [← List.drop_drop, h1.2.2, List.drop_left]; rfl)
    have hr := readq.in_some (h2.trans (readq.read_close h3.1 h3.2.1))
    rw [n_text h1.2.1, readq.readF_yes h1.1 h1.2.1, hr, if_neg (by simp only; omega)]
    have hk : (⟨([] ++ rune.joinL l).toArray⟩ : ByteArray) = k := by rw [List.nil_append]; exact rune.runes_join hl
    rw [hk]
    refine Prod.ext rfl ?_
    show ((p + 1 + (byR l).length + 1 : Nat) : Int) = _
    rw [List.length_cons, List.length_append, List.length_singleton]
    omega
theorem run_of' {s : ByteArray} {p : Nat} {d r : List UInt8} (h : s.data.toList.drop p = d ++ r) (hd : ∀ c ∈ d, num.isD c) (hr : Stop r) : whole.run s p = d.length ∧ whole.figs s p = d ∧ (p + d.length < s.size → at_ s (p + d.length) ≠ 46 ∧ at_ s (p + d.length) ≠ 101 ∧ at_ s (p + d.length) ≠ 69) := by
  have e : s.data.toList.length = s.size := by simp
  have h1 : whole.run s p = d.length := by
    unfold whole.run
    rw [h, split.ld_app d r (fun c hc => whole.isD_dig (hd c hc))]
    cases r with
    | nil => rfl
    | cons b t =>
      have := (hr b t rfl).1
      simp [split.ld, this]
  refine ⟨h1, ?_, fun hlt => ?_⟩
  · unfold whole.figs
    rw [h1, h]
    simp
  · have hd2 : s.data.toList.drop (p + d.length) = r := by rw [← List.drop_drop, h, List.drop_left]
    cases r with
    | nil =>
      have := congrArg List.length hd2
      rw [List.length_drop, e] at this
      simp at this
      omega
    | cons b t =>
      have h2 := (at_list hd2).2.1
      obtain ⟨_, h3, h4, h5⟩ := hr b t rfl
      omega
theorem good_of' {s : ByteArray} {p : Nat} {d r : List UInt8} (h : s.data.toList.drop p = d ++ r) (hc : whole.canon d) (hr : Stop r) : ¬ whole.bad s p := by
  obtain ⟨h1, h2, h3⟩ := run_of' h hc.2.1 hr
  unfold whole.bad
  rw [h1]
  have hne : d.length ≠ 0 := fun e => hc.1 (List.eq_nil_of_length_eq_zero e)
  rintro (hb | ⟨hb, hb2⟩ | ⟨hb, hb2⟩)
  · exact hne hb
  · rcases hc.2.2 with h5 | h5
    · omega
    · have h6 := whole.figs_get s p 0 (by omega)
      rw [h2, Nat.add_zero] at h6
      omega
  · have := h3 hb
    omega
theorem whole_back {s : ByteArray} {p : Nat} {r : List UInt8} (n : Int) (h0 : -9223372036854775808 ≤ n) (h1 : n ≤ 9223372036854775807) (h : s.data.toList.drop p = Lib.itoa n ++ r) (hr : Stop r) (hp : p < s.size) :
    whole.wholeF s (p : Int) = (n, ((p + (Lib.itoa n).length : Nat) : Int)) ∧ (at_ s p = 45 ∨ (48 ≤ at_ s p ∧ at_ s p ≤ 57)) := by
  rw [whole.whole_in hp]
  by_cases hn : 0 ≤ n
  · obtain ⟨u, rfl⟩ := Int.eq_ofNat_of_zero_le hn
    rw [num.itoa_nat] at h ⊢
    have hc := whole.dec_canon u
    obtain ⟨r1, r2, r3⟩ := run_of' h hc.2.1 hr
    have hg := good_of' h hc hr
    have hd : 48 ≤ at_ s p ∧ at_ s p ≤ 57 := by
      have hp : 0 < whole.run s p := by
        rcases Nat.eq_zero_or_pos (whole.run s p) with e0 | e0
        · exact absurd (.inl e0) hg
        · exact e0
      have := whole.run_dig (s := s) (p := p) (k := 0) hp
      rwa [Nat.add_zero] at this
    have h45 : at_ s p ≠ 45 := by omega
    refine ⟨?_, .inr hd⟩
    unfold whole.wholeN whole.head
    rw [if_neg h45, if_neg hg, if_neg h45]
    unfold whole.spells
    rw [r2, num.dec_fold, if_pos (by omega), r1]
  · have hi : Lib.itoa n = 45 :: Lib.decDigits n.natAbs := by rw [Lib.itoa, if_pos (by omega)]
    rw [hi] at h ⊢
    have hc := whole.dec_canon n.natAbs
    have h2 := at_list h
    obtain ⟨r1, r2, r3⟩ := run_of' h2.2.2 hc.2.1 hr
    have hg := good_of' h2.2.2 hc hr
    have h45 : at_ s p = 45 := h2.2.1
    refine ⟨?_, .inl h45⟩
    unfold whole.wholeN whole.head
    rw [if_pos h45, if_neg hg, if_pos h45]
    unfold whole.spells
    rw [r2, num.dec_fold, if_pos (by omega), r1]
    refine Prod.ext ?_ ?_
    · show -(n.natAbs : Int) = n
      omega
    · show ((p + 1 + (Lib.decDigits n.natAbs).length : Nat) : Int) = ((p + (45 :: Lib.decDigits n.natAbs).length : Nat) : Int)
      rw [List.length_cons]
      omega
theorem itoa_head (n : Int) : ∃ x r, Lib.itoa n = x :: r ∧ ¬ sign.blank (x.toNat : Int) := by
  unfold Lib.itoa
  split
  · exact ⟨45, _, rfl, by decide⟩
  · cases hd : Lib.decDigits n.toNat with
    | nil => exact absurd hd (num.dec_ne _)
    | cons x r =>
      have := num.dec_isD n.toNat x (by rw [hd]; exact List.mem_cons_self)
      refine ⟨x, r, rfl, ?_⟩
      unfold num.isD at this
      unfold sign.blank
      omega
theorem spells_num {n : Int} (h0 : -9223372036854775808 ≤ n) (h1 : n ≤ 9223372036854775807) : Spells ⟨8, ⟨#[]⟩, n, 0⟩ (Lib.itoa n) := by
  refine ⟨itoa_head n, fun s p r h hr => ?_⟩
  have hr := hr rfl
  obtain ⟨x, t, e, _⟩ := itoa_head n
  have hp : p < s.size := (at_list (s := s) (p := p) (b := x) (r := t ++ r) (by rw [h, e]; rfl)).1
  obtain ⟨h2, h3⟩ := whole_back n h0 h1 h hr hp
  rw [n_num h3, h2, if_neg (by simp only; omega)]

/-! Tokens in a row, each behind blanks of its own. -/
abbrev Piece := List UInt8 × Sg × List UInt8
def flat : List Piece → List UInt8
  | [] => []
  | (b0, _, b) :: L => b0 ++ (b ++ flat L)
def place : Nat → List Piece → List Sg
  | _, [] => []
  | p, (b0, g, b) :: L => { g with at_ := ((p + b0.length : Nat) : Int) } :: place (p + b0.length + b.length) L
def Blanks (b : List UInt8) : Prop := ∀ x ∈ b, sign.blank (x.toNat : Int)
def Fine (bl : List UInt8) : List Piece → Prop
  | [] => Blanks bl
  | (b0, g, b) :: L => Blanks b0 ∧ Spells g b ∧ (g.kind = 8 → Stop (flat L ++ bl)) ∧ Fine bl L
theorem skip_blanks {s : ByteArray} : ∀ (b : List UInt8) (p : Nat) (r : List UInt8) (acc : List Sg), Blanks b → s.data.toList.drop p = b ++ r → signsF s p acc = signsF s (p + b.length) acc
  | [], p, r, acc, _, _ => rfl
  | x :: b, p, r, acc, hb, h => by
    have h1 := at_list (s := s) (p := p) (b := x) (r := b ++ r) h
    rw [signs_blank h1.1 (by rw [h1.2.1]; exact hb x List.mem_cons_self), skip_blanks b (p + 1) r acc (fun y hy => hb y (List.mem_cons_of_mem _ hy)) h1.2.2, List.length_cons]
    congr 1
    omega
theorem signs_pieces {s : ByteArray} {bl : List UInt8} : ∀ (L : List Piece) (p : Nat) (acc : List Sg), Fine bl L → s.data.toList.drop p = flat L ++ bl → signsF s p acc = .ok (acc ++ place p L)
  | [], p, acc, hf, h => by
    rw [skip_blanks bl p [] acc hf (by rw [List.append_nil]; exact h)]
    rw [signs_end, place, List.append_nil]
    have e : s.data.toList.length = s.size := by simp
    have := congrArg List.length h
    rw [List.length_drop, e] at this
    simp [flat] at this
    omega
  | (b0, g, b) :: L, p, acc, ⟨h1, h2, h3, h4⟩, h => by
    rw [flat, List.append_assoc, List.append_assoc] at h
    rw [skip_blanks b0 p _ acc h1 h]
    have hd : s.data.toList.drop (p + b0.length) = b ++ (flat L ++ bl) := by rw [← List.drop_drop, h, List.drop_left]
    obtain ⟨⟨x, t, hb, hx⟩, hs⟩ := h2
    have hn := hs s _ _ hd h3
    have ha := at_list (s := s) (p := p + b0.length) (b := x) (r := t ++ (flat L ++ bl)) (by rw [hd, hb]; rfl)
    have hd2 : s.data.toList.drop (p + b0.length + b.length) = flat L ++ bl := by rw [← List.drop_drop, hd, List.drop_left]
    rw [signs_go ha.1 (by rw [ha.2.1]; exact hx) (by rw [hn]) (by rw [hb]; simp), hn, signs_pieces L _ _ h4 hd2, place, List.append_assoc]
    rfl
theorem place_append : ∀ (L M : List Piece) (p : Nat), place p (L ++ M) = place p L ++ place (p + (flat L).length) M
  | [], M, p => rfl
  | (b0, g, b) :: L, M, p => by
    rw [List.cons_append, place, place, place_append L M, flat, List.cons_append]
    congr 3
    rw [List.length_append, List.length_append]
    omega
theorem flat_append : ∀ (L M : List Piece), flat (L ++ M) = flat L ++ flat M
  | [], M => rfl
  | (b0, g, b) :: L, M => by rw [List.cons_append, flat, flat, flat_append L M, List.append_assoc, List.append_assoc]
end Go.Proofs.YtlnfbpdicjcpgaaGreatDoor.tok
namespace Go.Proofs.YtlnfbpdicjcpgaaGreatDoor.brace
open Go Go.RowKit tree sign
set_option linter.unusedVariables false

abbrev Got := Except (Int × Int) (T × List Sg × Nat)
def headK : List Sg → Int
  | [] => 0
  | g :: _ => g.kind
def headAt (e : Int) : List Sg → Int
  | [] => e
  | g :: _ => g.at_
def bad (c e : Int) (rest : List Sg) : Got := .error (c, headAt e rest)
def begins (k : Int) : Bool := k == 1 || k == 3 || (decide (7 ≤ k) && decide (k ≤ 11))
def lowAt (ks : List ByteArray) (key : ByteArray) : Nat := (ks.takeWhile (fun k => less k key)).length
def layT (t : T) (key : ByteArray) (kid : T) : T :=
  .mk 6 false 0 ⟨#[]⟩ (t.keys.take (lowAt t.keys key) ++ key :: t.keys.drop (lowAt t.keys key)) (t.kids.take (lowAt t.keys key) ++ kid :: t.kids.drop (lowAt t.keys key))
def nullT : T := .mk 1 false 0 ⟨#[]⟩ [] []
def flagT (b : Bool) : T := .mk 2 b 0 ⟨#[]⟩ [] []
def mapT : T := .mk 6 false 0 ⟨#[]⟩ [] []
/-- The elements of a list, from one that must stand there on. -/
def listF (e : Int) (val : List Sg → Nat → Got) : Nat → List T → List Sg → Nat → Got
  | 0, acc, rest, many => bad 4 e rest
  | n + 1, acc, rest, many => match val rest many with
    | .error x => .error x
    | .ok (t, r, m) => if headK r = 6 then listF e val n (acc ++ [t]) r.tail m else if headK r = 4 then .ok (listT (acc ++ [t]), r.tail, m) else bad 4 e r
/-- The pairs of a map, from one that must stand there on. -/
def mapF (e : Int) (val : List Sg → Nat → Got) : Nat → T → List Sg → Nat → Got
  | 0, acc, rest, many => bad 4 e rest
  | n + 1, acc, [], many => bad 4 e []
  | n + 1, acc, g :: rest, many =>
    if g.kind ≠ 7 then bad 4 e (g :: rest) else if 400 < g.text.size then bad 8 e (g :: rest) else if 0 ≤ keyAt acc g.text then bad 5 e (g :: rest)
    else if headK rest ≠ 5 then bad 4 e rest else match val rest.tail many with
    | .error x => .error x
    | .ok (t, r, m) => if headK r = 6 then mapF e val n (layT acc g.text t) r.tail m else if headK r = 2 then .ok (layT acc g.text t, r.tail, m) else bad 4 e r
/-- A value, d levels above the depth that is too deep. -/
def valueF (e : Int) : Nat → List Sg → Nat → Got
  | 0, rest, many => if begins (headK rest) = true then bad 6 e rest else bad 4 e rest
  | d + 1, [], many => bad 4 e []
  | d + 1, g :: rest, many =>
    if begins g.kind = false then bad 4 e (g :: rest) else if 300 ≤ many then bad 7 e (g :: rest)
    else if g.kind = 11 then .ok (nullT, rest, many + 1) else if g.kind = 9 ∨ g.kind = 10 then .ok (flagT (g.kind == 9), rest, many + 1)
    else if g.kind = 8 then .ok (intT g.num, rest, many + 1)
    else if g.kind = 7 then (if 400 < g.text.size then bad 8 e (g :: rest) else .ok (textT g.text, rest, many + 1))
    else if g.kind = 3 then (if headK rest = 4 then .ok (listT [], rest.tail, many + 1) else listF e (valueF e d) rest.length [] rest (many + 1))
    else (if headK rest = 2 then .ok (mapT, rest.tail, many + 1) else mapF e (valueF e d) rest.length mapT rest (many + 1))
/-- The whole text's tokens. -/
def wholeF (e : Int) (l : List Sg) : Except (Int × Int) T := match valueF e 8 l 0 with
  | .error x => .error x
  | .ok (t, [], _) => .ok t
  | .ok (_, g :: _, _) => .error (4, g.at_)
noncomputable def readF (s : ByteArray) : T × Ft :=
  if (allF s).2.code ≠ 0 then (.mk 0 false 0 ⟨#[]⟩ [] [], (allF s).2) else match wholeF s.size (allF s).1 with
  | .error x => (.mk 0 false 0 ⟨#[]⟩ [] [], ⟨x.1, x.2, ⟨#[]⟩⟩)
  | .ok t => (t, ⟨0, 0, ⟨#[]⟩⟩)

/-- A value takes at least one token. -/
def Less (n : Nat) (v : Got) : Prop := ∀ t r m, v = .ok (t, r, m) → r.length < n
theorem tail_lt {l : List Sg} {k : Int} (h : headK l = k) (hk : k ≠ 0) : l.tail.length + 1 = l.length := by
  cases l with
  | nil => exact absurd h.symm hk
  | cons g r => simp
theorem listF_less (e : Int) (val : List Sg → Nat → Got) (hv : ∀ l m, Less l.length (val l m)) : ∀ n acc rest many, Less rest.length (listF e val n acc rest many)
  | 0, acc, rest, many => by intro t r m h; cases h
  | n + 1, acc, rest, many => by
    intro t r m h
    unfold listF at h
    split at h
    · cases h
    · rename_i t1 r1 m1 h1
      have h2 := hv _ _ _ _ _ h1
      split at h
      · rename_i h3
        have h4 := listF_less e val hv n _ _ _ _ _ _ h
        have := tail_lt h3 (by decide)
        omega
      · split at h
        · rename_i h3 h4
          have := tail_lt h4 (by decide)
          injection h with h; injection h with ha hb; injection hb with hb hc; subst hb
          omega
        · cases h
theorem mapF_less (e : Int) (val : List Sg → Nat → Got) (hv : ∀ l m, Less l.length (val l m)) : ∀ n acc rest many, Less rest.length (mapF e val n acc rest many)
  | 0, acc, rest, many => by intro t r m h; cases h
  | n + 1, acc, [], many => by intro t r m h; cases h
  | n + 1, acc, g :: rest, many => by
    intro t r m h
    unfold mapF at h
    split at h
    · cases h
    split at h
    · cases h
    split at h
    · cases h
    split at h
    · cases h
    rename_i h5
    have h5 := tail_lt (Classical.not_not.1 h5) (by decide)
    split at h
    · cases h
    · rename_i t1 r1 m1 h1
      have h2 := hv _ _ _ _ _ h1
      rw [List.length_cons]
      split at h
      · rename_i h3
        have h4 := mapF_less e val hv n _ _ _ _ _ _ h
        have := tail_lt h3 (by decide)
        omega
      · split at h
        · rename_i h3 h4
          have := tail_lt h4 (by decide)
          injection h with h; injection h with ha hb; injection hb with hb hc; subst hb
          omega
        · cases h
theorem value_less (e : Int) : ∀ d rest many, Less rest.length (valueF e d rest many)
  | 0, rest, many => by
    intro t r m h
    unfold valueF at h
    split at h <;> cases h
  | d + 1, [], many => by intro t r m h; cases h
  | d + 1, g :: rest, many => by
    intro t r m h
    unfold valueF at h
    rw [List.length_cons]
    split at h
    · cases h
    split at h
    · cases h
    split at h
    · injection h with h; injection h with ha hb; injection hb with hb hc; subst hb; omega
    split at h
    · injection h with h; injection h with ha hb; injection hb with hb hc; subst hb; omega
    split at h
    · injection h with h; injection h with ha hb; injection hb with hb hc; subst hb; omega
    split at h
    · split at h
      · cases h
      · injection h with h; injection h with ha hb; injection hb with hb hc; subst hb; omega
    split at h
    · split at h
      · injection h with h; injection h with ha hb; injection hb with hb hc; subst hb; simp; omega
      · have := listF_less e _ (value_less e d) _ _ _ _ _ _ _ h; omega
    · split at h
      · injection h with h; injection h with ha hb; injection hb with hb hc; subst hb; simp; omega
      · have := mapF_less e _ (value_less e d) _ _ _ _ _ _ _ h; omega
end Go.Proofs.YtlnfbpdicjcpgaaGreatDoor.brace
namespace Go.Proofs.YtlnfbpdicjcpgaaGreatDoor.tok
open Go Go.RowKit tree sign say quote
set_option linter.unusedVariables false

abbrev P2 := Sg × List UInt8
def tokC (k : Int) (b : UInt8) : P2 := (⟨k, ⟨#[]⟩, 0, 0⟩, [b])
def joinP : List (List P2) → List P2
  | [] => []
  | [x] => x
  | x :: y :: r => x ++ tokC 6 44 :: joinP (y :: r)
noncomputable def pairP (k : ByteArray) (l : List P2) : List P2 := (⟨7, k, 0, 0⟩, quoteL k) :: tokC 5 58 :: l
mutual
noncomputable def tk : T → List P2
  | .mk k fl n s ks kids =>
    if k = 1 then [(⟨11, ⟨#[]⟩, 0, 0⟩, nullL)] else if k = 2 then [if fl then (⟨9, ⟨#[]⟩, 0, 0⟩, trueL) else (⟨10, ⟨#[]⟩, 0, 0⟩, falseL)]
    else if k = 3 then [(⟨8, ⟨#[]⟩, n, 0⟩, Lib.itoa n)] else if k = 4 then [(⟨7, s, 0, 0⟩, quoteL s)]
    else if k = 5 then tokC 3 91 :: (joinP (tks kids) ++ [tokC 4 93]) else tokC 1 123 :: (joinP (List.zipWith pairP ks (tks kids)) ++ [tokC 2 125])
noncomputable def tks : List T → List (List P2)
  | [] => []
  | t :: r => tk t :: tks r
end
theorem tks_map : ∀ l : List T, tks l = l.map tk
  | [] => rfl
  | t :: r => by rw [tks, tks_map r]; rfl
theorem tk1 (fl : Bool) (n : Int) (s : ByteArray) (ks : List ByteArray) (kids : List T) : tk (.mk 1 fl n s ks kids) = [(⟨11, ⟨#[]⟩, 0, 0⟩, nullL)] := by rw [tk]; rfl
theorem tk2 (fl : Bool) (n : Int) (s : ByteArray) (ks : List ByteArray) (kids : List T) : tk (.mk 2 fl n s ks kids) = [if fl then (⟨9, ⟨#[]⟩, 0, 0⟩, trueL) else (⟨10, ⟨#[]⟩, 0, 0⟩, falseL)] := by rw [tk]; rfl
theorem tk3 (fl : Bool) (n : Int) (s : ByteArray) (ks : List ByteArray) (kids : List T) : tk (.mk 3 fl n s ks kids) = [(⟨8, ⟨#[]⟩, n, 0⟩, Lib.itoa n)] := by rw [tk]; rfl
theorem tk4 (fl : Bool) (n : Int) (s : ByteArray) (ks : List ByteArray) (kids : List T) : tk (.mk 4 fl n s ks kids) = [(⟨7, s, 0, 0⟩, quoteL s)] := by rw [tk]; rfl
theorem tk5 (fl : Bool) (n : Int) (s : ByteArray) (ks : List ByteArray) (kids : List T) : tk (.mk 5 fl n s ks kids) = tokC 3 91 :: (joinP (kids.map tk) ++ [tokC 4 93]) := by rw [tk, tks_map]; rfl
theorem tk6 (fl : Bool) (n : Int) (s : ByteArray) (ks : List ByteArray) (kids : List T) : tk (.mk 6 fl n s ks kids) = tokC 1 123 :: (joinP (List.zipWith pairP ks (kids.map tk)) ++ [tokC 2 125]) := by rw [tk, tks_map]; rfl
/-- Their bytes. -/
def fl2 (l : List P2) : List UInt8 := l.flatMap (·.2)
theorem fl2_append (a b : List P2) : fl2 (a ++ b) = fl2 a ++ fl2 b := by simp [fl2]
theorem fl2_cons (a : P2) (b : List P2) : fl2 (a :: b) = a.2 ++ fl2 b := by simp [fl2]
theorem join_fl : ∀ l : List (List P2), fl2 (joinP l) = joinC (l.map fl2)
  | [] => rfl
  | [x] => rfl
  | x :: y :: r => by
    have := join_fl (y :: r)
    rw [joinP, fl2_append, fl2_cons, this]
    rfl
theorem zip_fl : ∀ (ks : List ByteArray) (l : List (List P2)), (List.zipWith pairP ks l).map fl2 = List.zipWith pairL ks (l.map fl2)
  | [], l => by simp
  | k :: ks, [] => by simp
  | k :: ks, x :: l => by
    rw [List.zipWith_cons_cons, List.map_cons, List.map_cons, List.zipWith_cons_cons, zip_fl ks l]
    rfl
theorem tk_say : ∀ t : T, Shape t → fl2 (tk t) = say t := by
  refine T.ind fun k f n s ks kids ih hsh => ?_
  rw [Shape, shapes_iff] at hsh
  obtain ⟨⟨f1, f2, _⟩, _, _, hkids⟩ := hsh
  have hm : (kids.map tk).map fl2 = kids.map say := by
    rw [List.map_map]
    exact List.map_congr_left fun x hx => ih x hx (hkids x hx)
  obtain rfl | rfl | rfl | rfl | rfl | rfl : k = 1 ∨ k = 2 ∨ k = 3 ∨ k = 4 ∨ k = 5 ∨ k = 6 := by omega
  · rw [tk1, say1]; rfl
  · rw [tk2, say2]; cases f <;> rfl
  · rw [tk3, say3]; simp [fl2]
  · rw [tk4, say4]; simp [fl2]
  · rw [tk5, say5, fl2_cons, fl2_append, join_fl, hm]; rfl
  · rw [tk6, say6, fl2_cons, fl2_append, join_fl, zip_fl, hm]; rfl

/-! Each token is spelled, and what follows a number ends it. -/
/-- r may stand behind. -/
def Row : List UInt8 → List P2 → Prop
  | _, [] => True
  | r, (g, b) :: L => Spells g b ∧ (g.kind = 8 → Stop (fl2 L ++ r)) ∧ Row r L
theorem Row.append : ∀ {L M : List P2} {r : List UInt8}, Row (fl2 M ++ r) L → Row r M → Row r (L ++ M)
  | [], M, r, _, h => h
  | (g, b) :: L, M, r, ⟨h1, h2, h3⟩, h => ⟨h1, by show g.kind = 8 → Stop (fl2 (L ++ M) ++ r); rw [fl2_append, List.append_assoc]; exact h2, h3.append h⟩
theorem Row.cons {g : P2} {L : List P2} {r : List UInt8} (h : Spells g.1 g.2) (hk : g.1.kind ≠ 8) (hr : Row r L) : Row r (g :: L) := ⟨h, fun e => absurd e hk, hr⟩
theorem sp_C {k : Int} {b : UInt8} (h : markK (b.toNat : Int) = k) (hk : k ≠ 0) : Spells (tokC k b).1 (tokC k b).2 := by
  subst h
  exact spells_mark hk
theorem row_join {r : List UInt8} (hr : Stop r) : ∀ (l : List (List P2)), (∀ x ∈ l, ∀ r, Stop r → Row r x) → Row r (joinP l)
  | [], _ => trivial
  | [x], h => h x List.mem_cons_self r hr
  | x :: y :: l, h => Row.append (h x List.mem_cons_self _ (Stop.cons (by decide))) (Row.cons (sp_C (by decide) (by decide)) (by decide) (row_join hr (y :: l) fun z hz => h z (List.mem_cons_of_mem _ hz)))
theorem row_pairs {r : List UInt8} (hr : Stop r) : ∀ (ks : List ByteArray) (l : List (List P2)), (∀ k ∈ ks, (rune.runesF k).isSome = true) → (∀ x ∈ l, ∀ r, Stop r → Row r x) → ∀ x ∈ List.zipWith pairP ks l, ∀ r, Stop r → Row r x
  | [], l, _, _, x, hx => by simp at hx
  | k :: ks, [], _, _, x, hx => by simp at hx
  | k :: ks, y :: l, hk, hl, x, hx => by
    rw [List.zipWith_cons_cons] at hx
    rcases List.mem_cons.1 hx with rfl | hx
    · intro r hr
      exact Row.cons (spells_quote (hk k List.mem_cons_self)) (show (7 : Int) ≠ 8 by decide) (Row.cons (sp_C (by decide) (by decide)) (by decide) (hl y List.mem_cons_self r hr))
    · exact row_pairs hr ks l (fun k hk2 => hk k (List.mem_cons_of_mem _ hk2)) (fun z hz => hl z (List.mem_cons_of_mem _ hz)) x hx
theorem keys_of {ks : List ByteArray} (h : KeysOk ks) : ∀ k ∈ ks, TextOk k := fun x hx => by
  obtain ⟨i, hi, rfl⟩ := List.getElem_of_mem hx
  have := (h i hi).1
  rwa [List.getD_eq_getElem?_getD, List.getElem?_eq_getElem hi] at this
theorem row_tk : ∀ t : T, Shape t → Nums t → ∀ r, Stop r → Row r (tk t) := by
  refine T.ind fun k f n s ks kids ih hsh hn r hr => ?_
  rw [Shape, shapes_iff] at hsh
  rw [Nums, numss_iff] at hn
  obtain ⟨⟨f1, f2, _⟩, ht, hk, hkids⟩ := hsh
  have hm : ∀ x ∈ kids.map tk, ∀ r, Stop r → Row r x := by
    intro x hx
    obtain ⟨y, hy, rfl⟩ := List.mem_map.1 hx
    exact ih y hy (hkids y hy) (hn.2 y hy)
  obtain rfl | rfl | rfl | rfl | rfl | rfl : k = 1 ∨ k = 2 ∨ k = 3 ∨ k = 4 ∨ k = 5 ∨ k = 6 := by omega
  · rw [tk1]; exact Row.cons spells_null (by decide) trivial
  · rw [tk2]
    cases f
    · exact Row.cons spells_false (by decide) trivial
    · exact Row.cons spells_true (by decide) trivial
  · rw [tk3]; exact ⟨spells_num hn.1.1 hn.1.2, fun _ => hr, trivial⟩
  · rw [tk4]; exact Row.cons (spells_quote ht.2) (show (7 : Int) ≠ 8 by decide) trivial
  · rw [tk5]
    exact Row.cons (sp_C (by decide) (by decide)) (by decide) (Row.append (row_join (Stop.cons (by decide)) _ hm) (Row.cons (sp_C (by decide) (by decide)) (by decide) trivial))
  · rw [tk6]
    exact Row.cons (sp_C (by decide) (by decide)) (by decide) (Row.append (row_join (Stop.cons (by decide)) _ (row_pairs Stop.nil _ _ (fun k hk2 => (keys_of hk k hk2).2) hm)) (Row.cons (sp_C (by decide) (by decide)) (by decide) trivial))

/-! The text is valid UTF-8. -/
theorem U.join : ∀ {l : List (List UInt8)}, (∀ x ∈ l, U x) → U (joinC l)
  | [], _ => U.nil
  | [x], h => h x List.mem_cons_self
  | x :: y :: r, h => U.append (h x List.mem_cons_self) (U.append (a := [44]) (U.ascii (by decide)) (U.join fun z hz => h z (List.mem_cons_of_mem _ hz)))
theorem U.pairs : ∀ {ks : List ByteArray} {l : List (List UInt8)}, (∀ k ∈ ks, (rune.runesF k).isSome = true) → (∀ x ∈ l, U x) → ∀ x ∈ List.zipWith pairL ks l, U x
  | [], l, _, _, x, hx => by simp at hx
  | k :: ks, [], _, _, x, hx => by simp at hx
  | k :: ks, y :: l, hk, hl, x, hx => by
    rw [List.zipWith_cons_cons] at hx
    rcases List.mem_cons.1 hx with rfl | hx
    · exact U.append (U.quote (hk k List.mem_cons_self)) (U.append (a := [58]) (U.ascii (by decide)) (hl y List.mem_cons_self))
    · exact U.pairs (fun k hk2 => hk k (List.mem_cons_of_mem _ hk2)) (fun z hz => hl z (List.mem_cons_of_mem _ hz)) x hx
theorem U.say : ∀ t : T, Shape t → U (say.say t) := by
  refine T.ind fun k f n s ks kids ih hsh => ?_
  rw [Shape, shapes_iff] at hsh
  obtain ⟨⟨f1, f2, _⟩, ht, hk, hkids⟩ := hsh
  have hm : ∀ x ∈ kids.map say.say, U x := by
    intro x hx
    obtain ⟨y, hy, rfl⟩ := List.mem_map.1 hx
    exact ih y hy (hkids y hy)
  obtain rfl | rfl | rfl | rfl | rfl | rfl : k = 1 ∨ k = 2 ∨ k = 3 ∨ k = 4 ∨ k = 5 ∨ k = 6 := by omega
  · rw [say1]; exact U.asciis (by decide)
  · rw [say2]; cases f <;> exact U.asciis (by decide)
  · rw [say3]; exact U.itoa n
  · rw [say4]; exact U.quote ht.2
  · rw [say5]; exact U.append (a := [91]) (U.ascii (by decide)) (U.append (U.join hm) (U.ascii (by decide)))
  · rw [say6]; exact U.append (a := [123]) (U.ascii (by decide)) (U.append (U.join (U.pairs (fun k hk2 => (keys_of hk k hk2).2) hm)) (U.ascii (by decide)))

/-! Signs of the text, bare and with blanks between. -/
def withB (b0 : List UInt8) (l : List P2) : List Piece := l.map fun x => (b0, x.1, x.2)
theorem flat_bare : ∀ l : List P2, flat (withB [] l) = fl2 l
  | [] => rfl
  | (g, b) :: l => by
    have := flat_bare l
    unfold withB at this ⊢
    rw [List.map_cons, flat, this, fl2_cons]
    rfl
theorem fine_bare {bl : List UInt8} (hb : Blanks bl) : ∀ {l : List P2}, Row bl l → Fine bl (withB [] l)
  | [], _ => hb
  | (g, b) :: l, ⟨h1, h2, h3⟩ => by
    have := fine_bare hb h3
    have hf := flat_bare l
    unfold withB at this hf ⊢
    rw [List.map_cons]
    exact ⟨fun x hx => by simp at hx, h1, by rw [hf]; exact h2, this⟩
theorem Stop.blank {b : UInt8} {r : List UInt8} (h : sign.blank (b.toNat : Int)) : Stop (b :: r) := Stop.cons (by unfold sign.blank at h; omega)
theorem fine_blank {bl : List UInt8} {x : UInt8} {b0 : List UInt8} (hx : Blanks (x :: b0)) (hb : Blanks bl) (hs : Stop bl) : ∀ {l : List P2} {r : List UInt8}, Row r l → Fine bl (withB (x :: b0) l)
  | [], r, _ => hb
  | (g, b) :: l, r, ⟨h1, h2, h3⟩ => by
    have := fine_blank hx hb hs h3
    refine ⟨hx, h1, fun _ => ?_, this⟩
    cases l with
    | nil => exact hs
    | cons y l => exact Stop.blank (hx x List.mem_cons_self)
end Go.Proofs.YtlnfbpdicjcpgaaGreatDoor.tok
namespace Go.Proofs.YtlnfbpdicjcpgaaGreatDoor.tok
open Go Go.RowKit tree sign say quote brace
set_option linter.unusedVariables false

def clr (g : Sg) : Sg := { g with at_ := 0 }
def Like (l : List Sg) (m : List P2) : Prop := l.map clr = m.map (·.1)
theorem Like.split {l : List Sg} {a b : List P2} (h : Like l (a ++ b)) : ∃ l1 l2, l = l1 ++ l2 ∧ Like l1 a ∧ Like l2 b := by
  unfold Like at h
  rw [List.map_append] at h
  obtain ⟨l1, l2, h1, h2, h3⟩ := List.map_eq_append_iff.1 h
  exact ⟨l1, l2, h1, h2, h3⟩
theorem Like.cons {l : List Sg} {a : P2} {b : List P2} (h : Like l (a :: b)) : ∃ g l2, l = g :: l2 ∧ clr g = a.1 ∧ Like l2 b := by
  unfold Like at h
  rw [List.map_cons] at h
  obtain ⟨g, l2, h1, h2, h3⟩ := List.map_eq_cons_iff.1 h
  exact ⟨g, l2, h1, h2, h3⟩
theorem Like.nil {l : List Sg} (h : Like l []) : l = [] := by
  unfold Like at h
  exact List.map_eq_nil_iff.1 h
theorem clr_kind {g : Sg} {k : Int} {s : ByteArray} {n : Int} (h : clr g = ⟨k, s, n, 0⟩) : g.kind = k ∧ g.text = s ∧ g.num = n := by
  obtain ⟨a, b, c, d⟩ := g
  unfold clr at h
  injection h with h1 h2 h3 _
  exact ⟨h1, h2, h3⟩
theorem tk_head (t : T) (hs : Shape t) : ∃ a r, tk t = a :: r ∧ begins a.1.kind = true := by
  obtain ⟨k, f, n, s, ks, kids⟩ := t
  rw [Shape] at hs
  obtain ⟨⟨f1, f2, _⟩, _⟩ := hs
  obtain rfl | rfl | rfl | rfl | rfl | rfl : k = 1 ∨ k = 2 ∨ k = 3 ∨ k = 4 ∨ k = 5 ∨ k = 6 := by omega
  · rw [tk1]; exact ⟨_, _, rfl, by decide⟩
  · rw [tk2]; cases f <;> exact ⟨_, _, rfl, by decide⟩
  · rw [tk3]; exact ⟨_, _, rfl, show begins 8 = true by decide⟩
  · rw [tk4]; exact ⟨_, _, rfl, show begins 7 = true by decide⟩
  · rw [tk5]; exact ⟨_, _, rfl, by decide⟩
  · rw [tk6]; exact ⟨_, _, rfl, by decide⟩
theorem Like.len {l : List Sg} {m : List P2} (h : Like l m) : l.length = m.length := by
  have := congrArg List.length h
  simpa using this
theorem join_length : ∀ (l : List (List P2)), (∀ x ∈ l, 1 ≤ x.length) → l.length ≤ (joinP l).length
  | [], _ => Nat.le_refl _
  | [x], h => h x List.mem_cons_self
  | x :: y :: r, h => by
    have h1 := h x List.mem_cons_self
    have h2 := join_length (y :: r) (fun z hz => h z (List.mem_cons_of_mem _ hz))
    rw [joinP, List.length_append, List.length_cons]
    simp only [List.length_cons] at h2 ⊢
    omega
def Back (e : Int) (d : Nat) (t : T) : Prop := ∀ l R many, many + size t ≤ 300 → Like l (tk t) → valueF e d (l ++ R) many = .ok (t, R, many + size t)
theorem like_one {l : List Sg} {k : Int} {b : UInt8} (h : Like l [tokC k b]) : ∃ g, l = [g] ∧ g.kind = k := by
  obtain ⟨g, l2, rfl, h1, h2⟩ := h.cons
  rw [h2.nil]
  exact ⟨g, rfl, (clr_kind h1).1⟩
theorem list_back (e : Int) (d : Nat) : ∀ (kids : List T) (n : Nat) (acc : List T) (l : List Sg) (c : Sg) (R : List Sg) (many : Nat), kids ≠ [] → kids.length ≤ n → (∀ x ∈ kids, Back e d x) → many + sizes kids ≤ 300 → Like l (joinP (kids.map tk)) → c.kind = 4 →
    listF e (valueF e d) n acc (l ++ c :: R) many = .ok (listT (acc ++ kids), R, many + sizes kids)
  | [], n, acc, l, c, R, many, h, _, _, _, _, _ => absurd rfl h
  | x :: r, 0, acc, l, c, R, many, _, h, _, _, _, _ => by simp at h
  | [x], n + 1, acc, l, c, R, many, _, _, hb, hm, hl, hc => by
    have hx := hb x List.mem_cons_self l (c :: R) many (by simp [sizes] at hm; exact hm) hl
    unfold listF
    rw [hx]
    simp only [headK, hc, List.tail_cons, sizes, Nat.add_zero]
    rfl
  | x :: y :: r, n + 1, acc, l, c, R, many, _, hn, hb, hm, hl, hc => by
    obtain ⟨l1, l2, rfl, h1, h2⟩ := Like.split (a := tk x) (b := tokC 6 44 :: joinP ((y :: r).map tk)) hl
    obtain ⟨g, l3, rfl, h3, h4⟩ := h2.cons
    have hg := (clr_kind h3).1
    rw [sizes] at hm
    have hx := hb x List.mem_cons_self l1 (g :: l3 ++ c :: R) many (by omega) h1
    unfold listF
    rw [List.append_assoc, hx]
    have ih := list_back e d (y :: r) n (acc ++ [x]) l3 c R (many + size x) (by simp) (by simp at hn ⊢; omega) (fun z hz => hb z (List.mem_cons_of_mem _ hz)) (by omega) h4 hc
    simp only [headK, List.cons_append, hg, List.tail_cons]
    rw [if_pos trivial, ih, List.append_assoc, sizes, Nat.add_assoc]
    rfl
theorem low_all {ks : List ByteArray} {key : ByteArray} (h : ∀ k ∈ ks, less k key = true) : lowAt ks key = ks.length := by
  unfold lowAt
  have : ∀ l : List ByteArray, (∀ k ∈ l, less k key = true) → l.takeWhile (fun k => less k key) = l := by
    intro l
    induction l with
    | nil => intro _; rfl
    | cons a r ih => intro h; rw [List.takeWhile_cons, if_pos (h a List.mem_cons_self), ih (fun k hk => h k (List.mem_cons_of_mem _ hk))]
  rw [this ks h]
theorem keyFrom_no {key : ByteArray} : ∀ (ks : List ByteArray) (i : Nat), key ∉ ks → keyFrom key ks i = -1
  | [], _, _ => rfl
  | k :: r, i, h => by
    rw [keyFrom, if_neg (fun e => h (by rw [e]; exact List.mem_cons_self)), keyFrom_no r _ (fun hr => h (List.mem_cons_of_mem _ hr))]
/-- A map under way: its keys so far are less than all that come. -/
theorem lay_end {ks : List ByteArray} {kids : List T} {key : ByteArray} {kid : T} (hl : ks.length = kids.length) (h : ∀ k ∈ ks, less k key = true) :
    layT (.mk 6 false 0 ⟨#[]⟩ ks kids) key kid = .mk 6 false 0 ⟨#[]⟩ (ks ++ [key]) (kids ++ [kid]) := by
  show T.mk 6 false 0 ⟨#[]⟩ (ks.take (lowAt ks key) ++ key :: ks.drop (lowAt ks key)) (kids.take (lowAt ks key) ++ kid :: kids.drop (lowAt ks key)) = _
  rw [low_all h, List.take_length, List.drop_length, hl, List.take_length, List.drop_length]
theorem map_back (e : Int) (d : Nat) : ∀ (ks : List ByteArray) (kids : List T) (n : Nat) (aks : List ByteArray) (akids : List T) (l : List Sg) (c : Sg) (R : List Sg) (many : Nat), ks.length = kids.length → kids ≠ [] → kids.length ≤ n → (∀ x ∈ kids, Back e d x) → many + sizes kids ≤ 300 →
    aks.length = akids.length → (∀ k ∈ ks, k.size ≤ 400) → (aks ++ ks).Pairwise (fun a b => less a b = true) → Like l (joinP (List.zipWith pairP ks (kids.map tk))) → c.kind = 2 →
    mapF e (valueF e d) n (.mk 6 false 0 ⟨#[]⟩ aks akids) (l ++ c :: R) many = .ok (.mk 6 false 0 ⟨#[]⟩ (aks ++ ks) (akids ++ kids), R, many + sizes kids)
  | ks, [], n, aks, akids, l, c, R, many, _, h, _, _, _, _, _, _, _, _ => absurd rfl h
  | [], x :: kids, n, aks, akids, l, c, R, many, h, _, _, _, _, _, _, _, _, _ => by simp at h
  | k :: ks, x :: r, 0, aks, akids, l, c, R, many, _, _, h, _, _, _, _, _, _, _ => by simp at h
  | k :: ks, x :: r, n + 1, aks, akids, l, c, R, many, hlen, _, hn, hb, hm, hal, hk4, hp, hl, hc => by
    have hka : ∀ a ∈ aks, less a k = true := fun a ha => (List.pairwise_append.1 hp).2.2 a ha k List.mem_cons_self
    have hno : keyAt (.mk 6 false 0 ⟨#[]⟩ aks akids) k = -1 := by
      show (if (6 : Int) = 6 then keyFrom k aks 0 else -1) = -1
      rw [if_pos rfl]
      exact keyFrom_no aks 0 (fun hin => by have := hka k hin; rw [less_self] at this; cases this)
    have hk400 := hk4 k List.mem_cons_self
    rw [sizes] at hm ⊢
    -- the pair, and what stands behind it
    obtain ⟨rest, hrest, hjoin⟩ : ∃ rest, joinP (List.zipWith pairP (k :: ks) ((x :: r).map tk)) = ((⟨7, k, 0, 0⟩, quoteL k) :: tokC 5 58 :: tk x) ++ rest ∧ ((r = [] ∧ rest = []) ∨ (r ≠ [] ∧ rest = tokC 6 44 :: joinP (List.zipWith pairP ks (r.map tk)))) := by
      cases r with
      | nil =>
        have : ks = [] := by cases ks with | nil => rfl | cons a b => simp at hlen
        subst this
        exact ⟨[], by simp [joinP, pairP], .inl ⟨rfl, rfl⟩⟩
      | cons y r2 =>
        cases ks with
        | nil => simp at hlen
        | cons k2 ks2 => exact ⟨_, rfl, .inr ⟨by simp, rfl⟩⟩
    rw [hrest] at hl
    obtain ⟨l1, l2, rfl, h1, h2⟩ := hl.split
    obtain ⟨g, l3, rfl, h3, h4⟩ := h1.cons
    obtain ⟨g2, l4, rfl, h5, h6⟩ := h4.cons
    obtain ⟨hg1, hg2, _⟩ := clr_kind h3
    have hg5 := (clr_kind h5).1
    have hx := hb x List.mem_cons_self l4 (l2 ++ c :: R) many (by omega) h6
    rw [List.cons_append, List.cons_append, List.cons_append, List.cons_append, List.append_assoc]
    unfold mapF
    rw [if_neg (by rw [hg1]; simp), hg2, if_neg (by omega), hno, if_neg (by decide), if_neg (by show ¬ g2.kind ≠ 5; rw [hg5]; simp), List.tail_cons, hx]
    simp only [lay_end hal hka]
    rcases hjoin with ⟨rfl, rfl⟩ | ⟨hr, rfl⟩
    · rw [h2.nil]
      have hks : ks = [] := by cases ks with | nil => rfl | cons a b => simp at hlen
      subst hks
      simp only [List.nil_append, headK, hc, List.tail_cons, sizes, Nat.add_zero]
      rfl
    · obtain ⟨g3, l5, rfl, h7, h8⟩ := h2.cons
      have hg6 := (clr_kind h7).1
      have ih := map_back e d ks r n (aks ++ [k]) (akids ++ [x]) l5 c R (many + size x) (by simpa using hlen) hr (by simp at hn ⊢; omega) (fun z hz => hb z (List.mem_cons_of_mem _ hz)) (by omega) (by simp [hal]) (fun y hy => hk4 y (List.mem_cons_of_mem _ hy)) (by rw [List.append_assoc]; exact hp) h8 hc
      simp only [headK, List.cons_append, hg6, List.tail_cons]
      rw [if_pos trivial, ih, List.append_assoc, List.append_assoc, Nat.add_assoc]
      rfl
theorem depths_mem {l : List T} {x : T} (h : x ∈ l) : depth x ≤ depths l := by
  induction l with
  | nil => cases h
  | cons a r ih =>
    rw [depths]
    rcases List.mem_cons.1 h with rfl | h
    · omega
    · have := ih h; omega
theorem value_back (e : Int) : ∀ (t : T), Shape t → ∀ d, depth t ≤ d → Back e d t := by
  refine T.ind fun k f n s ks kids ih hsh d hd => ?_
  intro l R many hm hl
  rw [Shape, shapes_iff] at hsh
  obtain ⟨⟨f1, f2, f3, f4, f5, f6, f7, f8⟩, ht, hk, hkids⟩ := hsh
  rw [depth] at hd
  rw [size] at hm ⊢
  obtain ⟨d', rfl⟩ : ∃ d', d = d' + 1 := ⟨d - 1, by omega⟩
  have hB : ∀ x ∈ kids, Back e d' x := fun x hx => ih x hx (hkids x hx) d' (by have := depths_mem hx; omega)
  have he : k ≠ 4 → s = ⟨#[]⟩ := fun h4 => by
    have : s.size = 0 := by
      rcases Nat.eq_zero_or_pos s.size with h | h
      · exact h
      · exact absurd (f5 h) h4
    exact ByteArray.size_eq_zero_iff.1 this
  have hf : k ≠ 2 → f = false := fun h2 => by cases f with | false => rfl | true => exact absurd (f3 rfl) h2
  have hn : k ≠ 3 → n = 0 := fun h3 => Classical.byContradiction fun h => h3 (f4 h)
  have hks : k ≠ 6 → ks = [] := fun h6 => List.eq_nil_of_length_eq_zero (by rcases Nat.eq_zero_or_pos ks.length with h | h; exact h; exact absurd (f6 h) h6)
  have hkd : k < 5 → kids = [] := fun h5 => List.eq_nil_of_length_eq_zero (by rcases Nat.eq_zero_or_pos kids.length with h | h; exact h; have := f7 h; omega)
  obtain rfl | rfl | rfl | rfl | rfl | rfl : k = 1 ∨ k = 2 ∨ k = 3 ∨ k = 4 ∨ k = 5 ∨ k = 6 := by omega
  · obtain rfl := he (by decide)
    obtain rfl := hf (by decide)
    obtain rfl := hn (by decide)
    obtain rfl := hks (by decide)
    obtain rfl := hkd (by decide)
    rw [tk1] at hl
    obtain ⟨g, l2, rfl, h1, h2⟩ := hl.cons
    rw [h2.nil]
    have hg := (clr_kind h1).1
    rw [List.cons_append, List.nil_append]
    unfold valueF
    rw [hg, if_neg (by decide), if_neg (by simp [sizes] at hm ⊢; omega), if_pos rfl]
    rfl
  · obtain rfl := he (by decide)
    obtain rfl := hn (by decide)
    obtain rfl := hks (by decide)
    obtain rfl := hkd (by decide)
    rw [tk2] at hl
    obtain ⟨g, l2, rfl, h1, h2⟩ := hl.cons
    rw [h2.nil]
    rw [List.cons_append, List.nil_append]
    unfold valueF
    cases f
    · have hg := (clr_kind h1).1
      rw [hg, if_neg (by decide), if_neg (by simp [sizes] at hm ⊢; omega), if_neg (by decide), if_pos (.inr rfl)]
      rfl
    · have hg := (clr_kind h1).1
      rw [hg, if_neg (by decide), if_neg (by simp [sizes] at hm ⊢; omega), if_neg (by decide), if_pos (.inl rfl)]
      rfl
  · obtain rfl := he (by decide)
    obtain rfl := hf (by decide)
    obtain rfl := hks (by decide)
    obtain rfl := hkd (by decide)
    rw [tk3] at hl
    obtain ⟨g, l2, rfl, h1, h2⟩ := hl.cons
    rw [h2.nil]
    obtain ⟨hg, _, hg3⟩ := clr_kind h1
    rw [List.cons_append, List.nil_append]
    unfold valueF
    rw [hg, hg3, if_neg (by decide), if_neg (by simp [sizes] at hm ⊢; omega), if_neg (by decide), if_neg (by decide), if_pos rfl]
    rfl
  · obtain rfl := hf (by decide)
    obtain rfl := hn (by decide)
    obtain rfl := hks (by decide)
    obtain rfl := hkd (by decide)
    rw [tk4] at hl
    obtain ⟨g, l2, rfl, h1, h2⟩ := hl.cons
    rw [h2.nil]
    obtain ⟨hg, hg2, _⟩ := clr_kind h1
    have ht1 := ht.1
    rw [List.cons_append, List.nil_append]
    unfold valueF
    rw [hg, hg2, if_neg (by decide), if_neg (by simp [sizes] at hm ⊢; omega), if_neg (by decide), if_neg (by decide), if_neg (by decide), if_pos rfl, if_neg (by omega)]
    rfl
  · obtain rfl := he (by decide)
    obtain rfl := hf (by decide)
    obtain rfl := hn (by decide)
    obtain rfl := hks (by decide)
    rw [tk5] at hl
    obtain ⟨g, l2, rfl, h1, h2⟩ := hl.cons
    obtain ⟨l3, l4, rfl, h3, h4⟩ := h2.split
    obtain ⟨c, rfl, hc⟩ := like_one h4
    have hg := (clr_kind h1).1
    rw [List.cons_append, List.append_assoc, List.cons_append, List.nil_append]
    unfold valueF
    rw [hg, if_neg (by decide), if_neg (by omega), if_neg (by decide), if_neg (by decide), if_neg (by decide), if_neg (by decide), if_pos rfl]
    by_cases hke : kids = []
    · subst hke
      rw [h3.nil, List.nil_append, if_pos (by exact hc), List.tail_cons]
      simp [sizes, listT]
    · have hne : headK (l3 ++ c :: R) ≠ 4 := by
        cases kids with
        | nil => exact absurd rfl hke
        | cons x r =>
          obtain ⟨a, t2, hx, hb⟩ := tk_head x (hkids x List.mem_cons_self)
          have : ∃ t3, joinP ((x :: r).map tk) = a :: t3 := by
            cases r with
            | nil => exact ⟨t2, by simp [joinP, hx]⟩
            | cons y r2 => exact ⟨_, by rw [List.map_cons, List.map_cons, joinP, hx]; rfl⟩
          obtain ⟨t3, ht3⟩ := this
          rw [ht3] at h3
          obtain ⟨g2, l5, rfl, h5, _⟩ := h3.cons
          have : g2.kind = a.1.kind := by rw [← h5]; rfl
          intro e2
          have e3 : g2.kind = 4 := e2
          rw [← this, e3] at hb
          exact absurd hb (by decide)
      have hlen : kids.length ≤ (l3 ++ c :: R).length := by
        have h5 := join_length (kids.map tk) (fun x hx => by
          obtain ⟨y, hy, rfl⟩ := List.mem_map.1 hx
          obtain ⟨a, t2, hx2, _⟩ := tk_head y (hkids y hy)
          rw [hx2]; simp)
        rw [List.length_map] at h5
        rw [List.length_append, h3.len]
        omega
      rw [if_neg hne, list_back e d' kids _ [] l3 c R (many + 1) hke hlen hB (by omega) h3 hc, List.nil_append, Nat.add_assoc]
      rfl
  · obtain rfl := he (by decide)
    obtain rfl := hf (by decide)
    obtain rfl := hn (by decide)
    have hl6 := f8 rfl
    rw [tk6] at hl
    obtain ⟨g, l2, rfl, h1, h2⟩ := hl.cons
    obtain ⟨l3, l4, rfl, h3, h4⟩ := h2.split
    obtain ⟨c, rfl, hc⟩ := like_one h4
    have hg := (clr_kind h1).1
    rw [List.cons_append, List.append_assoc, List.cons_append, List.nil_append]
    unfold valueF
    rw [hg, if_neg (by decide), if_neg (by omega), if_neg (by decide), if_neg (by decide), if_neg (by decide), if_neg (by decide), if_neg (by decide)]
    by_cases hke : kids = []
    · subst hke
      have : ks = [] := List.eq_nil_of_length_eq_zero hl6
      subst this
      rw [h3.nil, List.nil_append, if_pos (by exact hc), List.tail_cons]
      simp [sizes, mapT]
    · have hlen : kids.length ≤ (l3 ++ c :: R).length := by
        have h5 := join_length (List.zipWith pairP ks (kids.map tk)) (fun x hx => by
          have : ∀ (ks : List ByteArray) (ls : List (List P2)), ∀ x ∈ List.zipWith pairP ks ls, 1 ≤ x.length := by
            intro ks
            induction ks with
            | nil => intro ls x hx; simp at hx
            | cons a b ih2 =>
              intro ls x hx
              cases ls with
              | nil => simp at hx
              | cons y z =>
                rw [List.zipWith_cons_cons] at hx
                rcases List.mem_cons.1 hx with rfl | hx
                · simp [pairP]
                · exact ih2 z x hx
          exact this _ _ x hx)
        rw [List.length_zipWith, List.length_map, hl6, Nat.min_self] at h5
        rw [List.length_append, h3.len]
        omega
      have hne : headK (l3 ++ c :: R) ≠ 2 := by
        cases kids with
        | nil => exact absurd rfl hke
        | cons x r =>
          cases ks with
          | nil => simp at hl6
          | cons k2 ks2 =>
          have : ∃ t3, joinP (List.zipWith pairP (k2 :: ks2) ((x :: r).map tk)) = (⟨7, k2, 0, 0⟩, quoteL k2) :: t3 := by
            rw [List.map_cons, List.zipWith_cons_cons]
            cases List.zipWith pairP ks2 (r.map tk) with
            | nil => exact ⟨_, rfl⟩
            | cons y r2 => exact ⟨_, rfl⟩
          obtain ⟨t3, ht3⟩ := this
          rw [ht3] at h3
          obtain ⟨g2, l5, rfl, h5, _⟩ := h3.cons
          intro e2
          have e3 : g2.kind = 2 := e2
          rw [(clr_kind h5).1] at e3
          exact absurd e3 (by decide)
      have hp : ([] ++ ks : List ByteArray).Pairwise (fun a b => less a b = true) := pair_of_keys hk
      rw [if_neg hne]
      have := map_back e d' ks kids _ [] [] l3 c R (many + 1) hl6 hke hlen hB (by omega) rfl (fun k hk2 => (keys_of hk k hk2).1) hp h3 hc
      show mapF e (valueF e d') _ (.mk 6 false 0 ⟨#[]⟩ [] []) _ _ = _
      rw [this, List.nil_append, List.nil_append, Nat.add_assoc]
end Go.Proofs.YtlnfbpdicjcpgaaGreatDoor.tok
namespace Go.Proofs.YtlnfbpdicjcpgaaGreatDoor.tok
open Go Go.RowKit tree sign say quote brace
set_option linter.unusedVariables false

noncomputable def textB (t : T) : ByteArray := ⟨(say.say t).toArray⟩
theorem textB_size (t : T) : (textB t).size = (say.say t).length := by
  show (say.say t).toArray.size = _
  rw [List.size_toArray]
theorem textB_signs {t : T} (hs : Shape t) (hn : Nums t) (hz : (say.say t).length ≤ 20000) : allF (textB t) = (place 0 (withB [] (tk t)), ⟨0, 0, ⟨#[]⟩⟩) := by
  have h1 : signsF (textB t) 0 [] = .ok ([] ++ place 0 (withB [] (tk t))) := signs_pieces (bl := []) _ 0 [] (fine_bare (fun x hx => by cases hx) (row_tk t hs hn [] Stop.nil)) (by
    rw [flat_bare, tk_say t hs, List.append_nil, List.drop_zero]
    rfl)
  exact all_ok (by rw [textB_size]; omega) (U.bad (U.say t hs)) h1
theorem like_place : ∀ (L : List P2) (b0 : List UInt8) (p : Nat), (place p (withB b0 L)).map clr = L.map (fun x => clr x.1)
  | [], _, _ => rfl
  | (g, b) :: L, b0, p => by
    have := like_place L b0 (p + b0.length + b.length)
    unfold withB at this ⊢
    rw [List.map_cons, place, List.map_cons, this]
    rfl
theorem tk_clr : ∀ t : T, Shape t → ∀ x ∈ tk t, clr x.1 = x.1 := by
  refine T.ind fun k f n s ks kids ih hsh => ?_
  rw [Shape, shapes_iff] at hsh
  obtain ⟨⟨f1, f2, _⟩, ht, hk, hkids⟩ := hsh
  have hm : ∀ l ∈ kids.map tk, ∀ x ∈ l, clr x.1 = x.1 := fun l hl => by obtain ⟨y, hy, rfl⟩ := List.mem_map.1 hl; exact ih y hy (hkids y hy)
  have hj : ∀ ls : List (List P2), (∀ l ∈ ls, ∀ x ∈ l, clr x.1 = x.1) → ∀ x ∈ joinP ls, clr x.1 = x.1 := by
    intro ls
    induction ls with
    | nil => intro _ x hx; cases hx
    | cons a r ih2 =>
      intro h x hx
      cases r with
      | nil => exact h a List.mem_cons_self x hx
      | cons b r2 =>
        rw [joinP] at hx
        rcases List.mem_append.1 hx with hx | hx
        · exact h a List.mem_cons_self x hx
        · rcases List.mem_cons.1 hx with rfl | hx
          · rfl
          · exact ih2 (fun l hl => h l (List.mem_cons_of_mem _ hl)) x hx
  have hp : ∀ (ks : List ByteArray) (ls : List (List P2)), (∀ l ∈ ls, ∀ x ∈ l, clr x.1 = x.1) → ∀ l ∈ List.zipWith pairP ks ls, ∀ x ∈ l, clr x.1 = x.1 := by
    intro ks
    induction ks with
    | nil => intro ls _ l hl; simp at hl
    | cons a r ih2 =>
      intro ls h l hl
      cases ls with
      | nil => simp at hl
      | cons b r2 =>
        rw [List.zipWith_cons_cons] at hl
        rcases List.mem_cons.1 hl with rfl | hl
        · intro x hx
          unfold pairP at hx
          rcases List.mem_cons.1 hx with rfl | hx
          · rfl
          · rcases List.mem_cons.1 hx with rfl | hx
            · rfl
            · exact h b List.mem_cons_self x hx
        · exact ih2 r2 (fun l hl => h l (List.mem_cons_of_mem _ hl)) l hl
  have h1 : ∀ x ∈ joinP (kids.map tk), clr x.1 = x.1 := hj _ hm
  have h2 : ∀ x ∈ joinP (List.zipWith pairP ks (kids.map tk)), clr x.1 = x.1 := hj _ (hp _ _ hm)
  obtain rfl | rfl | rfl | rfl | rfl | rfl : k = 1 ∨ k = 2 ∨ k = 3 ∨ k = 4 ∨ k = 5 ∨ k = 6 := by omega
  · rw [tk1]; intro x hx; rw [List.mem_singleton] at hx; subst hx; rfl
  · rw [tk2]; intro x hx; rw [List.mem_singleton] at hx; subst hx; cases f <;> rfl
  · rw [tk3]; intro x hx; rw [List.mem_singleton] at hx; subst hx; rfl
  · rw [tk4]; intro x hx; rw [List.mem_singleton] at hx; subst hx; rfl
  · rw [tk5]; intro x hx
    rcases List.mem_cons.1 hx with rfl | hx
    · rfl
    rcases List.mem_append.1 hx with hx | hx
    · exact h1 x hx
    · rw [List.mem_singleton] at hx; subst hx; rfl
  · rw [tk6]; intro x hx
    rcases List.mem_cons.1 hx with rfl | hx
    · rfl
    rcases List.mem_append.1 hx with hx | hx
    · exact h2 x hx
    · rw [List.mem_singleton] at hx; subst hx; rfl
theorem like_tk {t : T} (hs : Shape t) (b0 : List UInt8) (p : Nat) : Like (place p (withB b0 (tk t))) (tk t) := by
  unfold Like
  rw [like_place]
  exact List.map_congr_left fun x hx => tk_clr t hs x hx
/-- What is told is read back. -/
theorem read_back {t : T} (ho : Ok t) (hn : Nums t) (hz : (say.say t).length ≤ 20000) : brace.readF (textB t) = (t, ⟨0, 0, ⟨#[]⟩⟩) := by
  unfold brace.readF
  rw [textB_signs ho.2.2 hn hz]
  have h := value_back ((textB t).size : Int) t ho.2.2 8 ho.1 _ [] 0 (by have := ho.2.1; omega) (like_tk ho.2.2 [] 0)
  rw [List.append_nil] at h
  simp only [ne_eq, not_true_eq_false, if_false]
  unfold wholeF
  rw [h]
/-- The signs behind blanks. -/
theorem place_get (b0 : List UInt8) : ∀ (L : List P2) (p i : Nat) (h : i < L.length), (place p (withB b0 L))[i]? = some { L[i].1 with at_ := ((p + (i + 1) * b0.length + (fl2 (L.take i)).length : Nat) : Int) }
  | [], p, i, h => by simp at h
  | (g, b) :: L, p, 0, h => by
    show some _ = _
    congr 3
    simp [fl2]
  | (g, b) :: L, p, i + 1, h => by
    have ih := place_get b0 L (p + b0.length + b.length) i (by simpa using h)
    show (place (p + b0.length + b.length) (withB b0 L))[i]? = _
    rw [ih]
    have e : p + b0.length + b.length + (i + 1) * b0.length + (fl2 (L.take i)).length = p + (i + 1 + 1) * b0.length + (fl2 (((g, b) :: L).take (i + 1))).length := by
      rw [List.take_succ_cons, fl2_cons, List.length_append, Nat.succ_mul (i + 1)]
      show _ = p + _ + (b.length + _)
      generalize (i + 1) * b0.length = x
      omega
    rw [e]
    rfl
theorem place_length : ∀ (b0 : List UInt8) (L : List P2) (p : Nat), (place p (withB b0 L)).length = L.length
  | _, [], _ => rfl
  | b0, (g, b) :: L, p => by
    show (place (p + b0.length + b.length) (withB b0 L)).length + 1 = _
    rw [place_length b0 L]
    rfl
end Go.Proofs.YtlnfbpdicjcpgaaGreatDoor.tok
namespace Go.Proofs.YtlnfbpdicjcpgaaGreatDoor.tok
open Go Go.RowKit tree sign say quote brace
set_option linter.unusedVariables false

set_option maxRecDepth 100000 in
theorem tk_len : ∀ (t : T), Shape t → (tk t).length + 3 ≤ 5 * tree.size t := by
  refine T.ind fun k f n s ks kids ih hsh => ?_
  rw [Shape, shapes_iff] at hsh
  obtain ⟨⟨f1, f2, _⟩, _, _, hkids⟩ := hsh
  rw [tree.size]
  have hm : ∀ (ls : List T), (∀ x ∈ ls, (tk x).length + 3 ≤ 5 * tree.size x) → ((ls.map tk).map (fun x => x.length + 3)).sum ≤ 5 * sizes ls := by
    intro ls
    induction ls with
    | nil => intro _; simp [sizes]
    | cons a r ih2 =>
      intro h
      have h1 := h a List.mem_cons_self
      have h2 := ih2 (fun x hx => h x (List.mem_cons_of_mem _ hx))
      rw [sizes, List.map_cons, List.map_cons, List.sum_cons]
      generalize ((r.map tk).map (fun x => x.length + 3)).sum = a1 at h2 ⊢
      omega
  have h5 := hm kids (fun x hx => ih x hx (hkids x hx))
  have hj : ∀ ls : List (List P2), (joinP ls).length ≤ (ls.map (fun x => x.length + 1)).sum := by
    intro ls
    induction ls with
    | nil => simp [joinP]
    | cons a r ih2 =>
      cases r with
      | nil => simp [joinP]
      | cons b r2 =>
        rw [joinP, List.length_append, List.length_cons, List.map_cons, List.sum_cons]
        generalize ((b :: r2).map (fun x => x.length + 1)).sum = a1 at ih2 ⊢
        omega
  have hle : ∀ ls : List (List P2), (ls.map (fun x => x.length + 1)).sum ≤ (ls.map (fun x => x.length + 3)).sum := by
    intro ls
    induction ls with
    | nil => simp
    | cons a r ih2 => simp only [List.map_cons, List.sum_cons]; omega
  have hp : ∀ (ks : List ByteArray) (ls : List (List P2)), ((List.zipWith pairP ks ls).map (fun x => x.length + 1)).sum ≤ (ls.map (fun x => x.length + 3)).sum := by
    intro ks
    induction ks with
    | nil => intro ls; simp
    | cons a r ih2 =>
      intro ls
      cases ls with
      | nil => simp
      | cons b r2 =>
        have := ih2 r2
        rw [List.zipWith_cons_cons, List.map_cons, List.map_cons, List.sum_cons, List.sum_cons]
        have e : (pairP a b).length = b.length + 2 := by simp [pairP]
        rw [e]
        generalize ((List.zipWith pairP r r2).map (fun x => x.length + 1)).sum = a1 at this ⊢
        generalize (r2.map (fun x => x.length + 3)).sum = a2 at this ⊢
        omega
  obtain rfl | rfl | rfl | rfl | rfl | rfl : k = 1 ∨ k = 2 ∨ k = 3 ∨ k = 4 ∨ k = 5 ∨ k = 6 := by omega
  · rw [tk1]; simp; omega
  · rw [tk2]; simp; omega
  · rw [tk3]; simp; omega
  · rw [tk4]; simp; omega
  · rw [tk5, List.length_cons, List.length_append, List.length_singleton]
    have h1 := hj (kids.map tk)
    have h2 := hle (kids.map tk)
    generalize ((kids.map tk).map (fun x => x.length + 3)).sum = a1 at h5 h2
    omega
  · rw [tk6, List.length_cons, List.length_append, List.length_singleton]
    have h1 := hj (List.zipWith pairP ks (kids.map tk))
    have h2 := hp ks (kids.map tk)
    generalize ((kids.map tk).map (fun x => x.length + 3)).sum = a1 at h5 h2
    omega
theorem tk_pos (t : T) (hs : Shape t) : 1 ≤ (tk t).length := by
  obtain ⟨a, r, h, _⟩ := tk_head t hs
  rw [h]; simp
def off (L : List P2) (i : Nat) : Nat := (fl2 (L.take i)).length
theorem off_next (L : List P2) (i : Nat) (h : i < L.length) : fl2 (L.take (i + 1)) = fl2 (L.take i) ++ L[i].2 := by
  rw [List.take_succ_eq_append_getElem h, fl2_append, fl2_cons]
  simp [fl2]
theorem off_le (L : List P2) (i : Nat) (h : i < L.length) : off L i ≤ off L (i + 1) := by
  unfold off
  rw [off_next L i h, List.length_append]
  omega
theorem off_end (L : List P2) (i : Nat) : off L i ≤ (fl2 L).length := by
  have h : fl2 L = fl2 (L.take i) ++ fl2 (L.drop i) := by rw [← fl2_append, List.take_append_drop]
  unfold off
  rw [h, List.length_append]
  omega
theorem off_all (L : List P2) : off L L.length = (fl2 L).length := by unfold off; rw [List.take_length]
/-- A piece cut out of the text. -/
theorem cut_piece (L : List P2) (i : Nat) (h : i < L.length) (s : ByteArray) (hs : s.data.toList = fl2 L) : (s.extract (off L i) (off L (i + 1))).data.toList = L[i].2 := by
  have e : fl2 L = fl2 (L.take i) ++ (L[i].2 ++ fl2 (L.drop (i + 1))) := by
    rw [← List.append_assoc, ← off_next L i h, ← fl2_append, List.take_append_drop]
  have e2 : off L (i + 1) = off L i + L[i].2.length := by unfold off; rw [off_next L i h, List.length_append]
  rw [ByteArray.data_extract, Array.toList_extract, List.extract_eq_take_drop, hs, e, e2]
  unfold off
  rw [List.drop_left, Nat.add_sub_cancel_left, List.take_left]
/-- The text told again. -/
def again (L : List P2) (i : Nat) : ByteArray := ⟨(flat (withB [32, 10, 9] (L.take i))).toArray⟩
theorem again_next (L : List P2) (i : Nat) (h : i < L.length) (s : ByteArray) (hs : s.data.toList = fl2 L) : again L i ++ ⟨#[32, 10, 9]⟩ ++ s.extract (off L i) (off L (i + 1)) = again L (i + 1) := by
  apply ByteArray.ext
  apply Array.ext'
  rw [ByteArray.data_append, ByteArray.data_append, Array.toList_append, Array.toList_append, cut_piece L i h s hs]
  show flat (withB [32, 10, 9] (L.take i)) ++ [32, 10, 9] ++ L[i].2 = flat (withB [32, 10, 9] (L.take (i + 1)))
  rw [List.take_succ_eq_append_getElem h]
  unfold withB
  rw [List.map_append, flat_append]
  simp [flat]
theorem again_size (L : List P2) (i : Nat) : (again L i).size ≤ 3 * i + off L i := by
  show (flat (withB [32, 10, 9] (L.take i))).toArray.size ≤ _
  rw [List.size_toArray]
  have : ∀ l : List P2, (flat (withB [32, 10, 9] l)).length = 3 * l.length + (fl2 l).length := by
    intro l
    induction l with
    | nil => rfl
    | cons a r ih =>
      have e : flat (withB [32, 10, 9] (a :: r)) = [32, 10, 9] ++ (a.2 ++ flat (withB [32, 10, 9] r)) := rfl
      rw [e, fl2_cons, List.length_append, List.length_append, List.length_append, ih, List.length_cons]
      simp only [List.length_cons, List.length_nil]
      omega
  rw [this, List.length_take]
  unfold off
  omega
theorem tk_U : ∀ t : T, Shape t → ∀ x ∈ tk t, U x.2 := by
  refine T.ind fun k f n s ks kids ih hsh => ?_
  rw [Shape, shapes_iff] at hsh
  obtain ⟨⟨f1, f2, _⟩, ht, hk, hkids⟩ := hsh
  have hm : ∀ l ∈ kids.map tk, ∀ x ∈ l, U x.2 := fun l hl => by obtain ⟨y, hy, rfl⟩ := List.mem_map.1 hl; exact ih y hy (hkids y hy)
  have hj : ∀ ls : List (List P2), (∀ l ∈ ls, ∀ x ∈ l, U x.2) → ∀ x ∈ joinP ls, U x.2 := by
    intro ls
    induction ls with
    | nil => intro _ x hx; cases hx
    | cons a r ih2 =>
      intro h x hx
      cases r with
      | nil => exact h a List.mem_cons_self x hx
      | cons b r2 =>
        rw [joinP] at hx
        rcases List.mem_append.1 hx with hx | hx
        · exact h a List.mem_cons_self x hx
        · rcases List.mem_cons.1 hx with rfl | hx
          · exact U.ascii (by decide)
          · exact ih2 (fun l hl => h l (List.mem_cons_of_mem _ hl)) x hx
  have hp : ∀ (ks : List ByteArray) (ls : List (List P2)), (∀ k ∈ ks, TextOk k) → (∀ l ∈ ls, ∀ x ∈ l, U x.2) → ∀ l ∈ List.zipWith pairP ks ls, ∀ x ∈ l, U x.2 := by
    intro ks
    induction ks with
    | nil => intro ls _ _ l hl; simp at hl
    | cons a r ih2 =>
      intro ls hks h l hl
      cases ls with
      | nil => simp at hl
      | cons b r2 =>
        rw [List.zipWith_cons_cons] at hl
        rcases List.mem_cons.1 hl with rfl | hl
        · intro x hx
          unfold pairP at hx
          rcases List.mem_cons.1 hx with rfl | hx
          · exact U.quote (hks a List.mem_cons_self).2
          · rcases List.mem_cons.1 hx with rfl | hx
            · exact U.ascii (by decide)
            · exact h b List.mem_cons_self x hx
        · exact ih2 r2 (fun k hk => hks k (List.mem_cons_of_mem _ hk)) (fun l hl => h l (List.mem_cons_of_mem _ hl)) l hl
  have h1 : ∀ x ∈ joinP (kids.map tk), U x.2 := hj _ hm
  have h2 : ∀ x ∈ joinP (List.zipWith pairP ks (kids.map tk)), U x.2 := hj _ (hp _ _ (keys_of hk) hm)
  obtain rfl | rfl | rfl | rfl | rfl | rfl : k = 1 ∨ k = 2 ∨ k = 3 ∨ k = 4 ∨ k = 5 ∨ k = 6 := by omega
  · rw [tk1]; intro x hx; rw [List.mem_singleton] at hx; subst hx; exact U.asciis (by decide)
  · rw [tk2]; intro x hx; rw [List.mem_singleton] at hx; subst hx; cases f <;> exact U.asciis (by decide)
  · rw [tk3]; intro x hx; rw [List.mem_singleton] at hx; subst hx; exact U.itoa n
  · rw [tk4]; intro x hx; rw [List.mem_singleton] at hx; subst hx; exact U.quote ht.2
  · rw [tk5]; intro x hx
    rcases List.mem_cons.1 hx with rfl | hx
    · exact U.ascii (by decide)
    rcases List.mem_append.1 hx with hx | hx
    · exact h1 x hx
    · rw [List.mem_singleton] at hx; subst hx; exact U.ascii (by decide)
  · rw [tk6]; intro x hx
    rcases List.mem_cons.1 hx with rfl | hx
    · exact U.ascii (by decide)
    rcases List.mem_append.1 hx with hx | hx
    · exact h2 x hx
    · rw [List.mem_singleton] at hx; subst hx; exact U.ascii (by decide)
theorem flat_U {b0 : List UInt8} (h0 : U b0) : ∀ (l : List P2), (∀ x ∈ l, U x.2) → U (flat (withB b0 l))
  | [], _ => U.nil
  | a :: r, h => U.append h0 (U.append (h a List.mem_cons_self) (flat_U h0 r fun x hx => h x (List.mem_cons_of_mem _ hx)))
theorem again_signs {t : T} (hs : Shape t) (hn : Nums t) (hz : (say.say t).length ≤ 6722) (hk : tree.size t ≤ 85) :
    allF (again (tk t) (tk t).length ++ ⟨#[13]⟩) = (place 0 (withB [32, 10, 9] (tk t)), ⟨0, 0, ⟨#[]⟩⟩) := by
  have hl := tk_len t hs
  have hg : (again (tk t) (tk t).length ++ ⟨#[13]⟩).data.toList = flat (withB [32, 10, 9] (tk t)) ++ [13] := by
    rw [ByteArray.data_append, Array.toList_append]
    show flat (withB [32, 10, 9] ((tk t).take (tk t).length)) ++ [13] = _
    rw [List.take_length]
  have hB : Blanks [32, 10, 9] := fun x hx => by
    simp only [List.mem_cons, List.not_mem_nil, or_false] at hx
    rcases hx with rfl | rfl | rfl <;> decide
  have hB2 : Blanks [13] := fun x hx => by
    simp only [List.mem_cons, List.not_mem_nil, or_false] at hx
    subst hx; decide
  have h1 : signsF (again (tk t) (tk t).length ++ ⟨#[13]⟩) 0 [] = .ok ([] ++ place 0 (withB [32, 10, 9] (tk t))) :=
    signs_pieces (bl := [13]) _ 0 [] (fine_blank hB hB2 (Stop.cons (by decide)) (row_tk t hs hn [] Stop.nil)) (by rw [List.drop_zero, hg])
  have hu : U (flat (withB [32, 10, 9] (tk t)) ++ [13]) := by
    exact U.append (flat_U (U.asciis (by decide)) _ (tk_U t hs)) (U.ascii (by decide))
  have hsz := again_size (tk t) (tk t).length
  rw [off_all, tk_say t hs] at hsz
  have hsz2 : (again (tk t) (tk t).length ++ ⟨#[13]⟩).size = (again (tk t) (tk t).length).size + 1 := by rw [ByteArray.size_append]; rfl
  refine all_ok (by omega) (U.bad ?_) h1
  rw [hg]
  exact hu
/-- The signs themselves. -/
noncomputable def sgA (t : T) : List Sg := place 0 (withB [] (tk t))
noncomputable def sgB (t : T) : List Sg := place 0 (withB [32, 10, 9] (tk t))
theorem sgA_length (t : T) : (sgA t).length = (tk t).length := place_length _ _ _
theorem sgB_length (t : T) : (sgB t).length = (tk t).length := place_length _ _ _
theorem sgA_get (t : T) (i : Nat) (h : i < (tk t).length) : (sgA t)[i]? = some { (tk t)[i].1 with at_ := (off (tk t) i : Int) } := by
  have := place_get [] (tk t) 0 i h
  unfold sgA off
  rw [this]
  simp
theorem sgB_get (t : T) (i : Nat) (h : i < (tk t).length) : ∃ a : Int, (sgB t)[i]? = some { (tk t)[i].1 with at_ := a } := ⟨_, place_get [32, 10, 9] (tk t) 0 i h⟩
/-- The first sign, read alone. -/
theorem sg_first {t : T} (hs : Shape t) (hn : Nums t) : ∃ (h : 0 < (tk t).length) (k : Nat), 0 < k ∧ signN (textB t) 0 = ({ (tk t)[0].1 with at_ := 0 }, (k : Int)) ∧ 0 < (textB t).size := by
  have h0 := tk_pos t hs
  have hr := row_tk t hs hn [] Stop.nil
  have he := tk_say t hs
  obtain ⟨a, r, htk, _⟩ := tk_head t hs
  rw [htk] at hr he
  obtain ⟨g, b⟩ := a
  obtain ⟨h1, h2, _⟩ := hr
  obtain ⟨⟨x, y, hb, _⟩, h4⟩ := h1
  have hd : (textB t).data.toList.drop 0 = b ++ (fl2 r ++ []) := by
    rw [List.drop_zero, List.append_nil]
    show say.say t = _
    rw [← he, fl2_cons]
  have h5 := h4 (textB t) 0 _ hd h2
  refine ⟨h0, b.length, by rw [hb]; simp, ?_, ?_⟩
  · rw [h5, Nat.zero_add]
    simp only [htk]
    rfl
  · rw [textB_size, ← he, fl2_cons, hb]; simp
end Go.Proofs.YtlnfbpdicjcpgaaGreatDoor.tok
