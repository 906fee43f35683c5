/- Merged: QuoteM SayM. -/
import Derived.Test.YtfggpcahfpjgmaaDoorRuneM
import Derived.Test.YtfggpcahfpjgmaaDoorGTree
import Derived.Lib.ItoaNum
namespace Go.Proofs.YtfggpcahfpjgmaaDoor.quote
open Go Go.RowKit
set_option linter.unusedVariables false

def fg (n : Nat) : UInt8 := if n < 10 then UInt8.ofNat (48 + n) else UInt8.ofNat (87 + n)
/-- A code point below 128 that is written otherwise. -/
def esc (n : Nat) : Option (List UInt8) :=
  if n = 34 then some [92, 34] else if n = 92 then some [92, 92] else if n = 8 then some [92, 98] else if n = 12 then some [92, 102]
  else if n = 10 then some [92, 110] else if n = 13 then some [92, 114] else if n = 9 then some [92, 116]
  else if n < 32 then some [92, 117, 48, 48, fg (n / 16), fg (n % 16)] else none
def qN (n : Nat) : List UInt8 := (esc n).getD (rune.encB n)
def qB (b : UInt8) : List UInt8 := (esc b.toNat).getD [b]
theorem esc_big {n : Nat} (h : 128 ≤ n) : esc n = none := by
  unfold esc
  rw [if_neg (by omega), if_neg (by omega), if_neg (by omega), if_neg (by omega), if_neg (by omega), if_neg (by omega), if_neg (by omega), if_neg (by omega)]
theorem esc_le {n : Nat} {l : List UInt8} (h : esc n = some l) : l.length ≤ 6 := by
  unfold esc at h
  repeat' split at h
  all_goals first | (injection h with h; subst h; simp) | cases h
theorem qB_le (b : UInt8) : (qB b).length ≤ 6 := by
  unfold qB
  cases h : esc b.toNat with
  | none => simp
  | some l => exact esc_le h
theorem qN_le (n : Nat) : (qN n).length ≤ 6 := by
  unfold qN
  cases h : esc n with
  | none => show (rune.encB n).length ≤ 6; rw [rune.encB_length]; have := rune.enc_le n; omega
  | some l => exact esc_le h
theorem flat_self : ∀ (l : List UInt8), (∀ b ∈ l, 128 ≤ b.toNat) → l.flatMap qB = l
  | [], _ => rfl
  | b :: r, h => by
    have h1 : qB b = [b] := by unfold qB; rw [esc_big (h b (List.mem_cons_self ..))]; rfl
    rw [List.flatMap_cons, h1, flat_self r (fun x hx => h x (List.mem_cons_of_mem _ hx))]
    rfl
theorem enc_hi {n : Nat} (h : rune.valid n) (h1 : 128 ≤ n) : ∀ b ∈ rune.enc n, 128 ≤ b := by
  unfold rune.enc
  rw [if_neg (by omega)]
  repeat' split
  all_goals
    intro b hb
    simp at hb
    omega
theorem enc_q {n : Nat} (h : rune.valid n) : (rune.encB n).flatMap qB = qN n := by
  by_cases h1 : n < 128
  · have e : rune.encB n = [UInt8.ofNat n] := by unfold rune.encB; rw [rune.enc1 h1]; rfl
    have e2 : (UInt8.ofNat n).toNat = n := by simp; omega
    unfold qN
    rw [e]
    simp only [List.flatMap_cons, List.flatMap_nil, List.append_nil, qB, e2]
  · unfold qN
    rw [esc_big (by omega)]
    show _ = rune.encB n
    refine flat_self _ ?_
    intro b hb
    unfold rune.encB at hb
    obtain ⟨x, hx, rfl⟩ := List.mem_map.1 hb
    have h2 := enc_hi h (by omega) x hx
    have h3 := rune.enc_lt h x hx
    simp
    omega
theorem cut_valid {s : ByteArray} : ∀ {b p : Nat} {l : List Int}, rune.cut s b p = some l → ∀ x ∈ l, ∃ n : Nat, x = (n : Int) ∧ rune.valid n := by
  intro b
  induction b with
  | zero =>
    intro p l h x hx
    unfold rune.cut at h
    split at h
    · cases h
    · injection h with h; subst h; cases hx
  | succ b ih =>
    intro p l h x hx
    by_cases hp : p < s.size
    · by_cases hn : (rune.atF s (p : Int)).2 < 0
      · rw [rune.cut_none hp hn] at h; cases h
      · obtain ⟨n, hi, e⟩ := rune.at_next hn
        rw [rune.cut_step hi] at h
        cases hc : rune.cut s b (p + (rune.enc n).length) with
        | none => rw [hc] at h; cases h
        | some r =>
          rw [hc] at h
          injection h with h
          subst h
          rcases List.mem_cons.1 hx with rfl | hx
          · exact ⟨n, rfl, hi.1⟩
          · exact ih hc x hx
    · rw [rune.cut_end (by omega)] at h
      injection h with h; subst h; cases hx
/-- What stands between the quotes, by code points and by bytes. -/
def byR (l : List Int) : List UInt8 := l.flatMap fun x => qN x.toNat
def byB (l : List UInt8) : List UInt8 := l.flatMap qB
theorem byR_snoc (l : List Int) (x : Int) : byR (l ++ [x]) = byR l ++ qN x.toNat := by simp [byR]
theorem byB_snoc (l : List UInt8) (b : UInt8) : byB (l ++ [b]) = byB l ++ qB b := by simp [byB]
theorem byR_join : ∀ (l : List Int), (∀ x ∈ l, ∃ n : Nat, x = (n : Int) ∧ rune.valid n) → byB (rune.joinL l) = byR l
  | [], _ => rfl
  | x :: r, h => by
    obtain ⟨n, rfl, hv⟩ := h x (List.mem_cons_self ..)
    have ih := byR_join r (fun y hy => h y (List.mem_cons_of_mem _ hy))
    unfold byB at ih ⊢
    rw [rune.joinL_cons, List.flatMap_append, ih, rune.text_yes hv]
    unfold byR
    rw [List.flatMap_cons]
    congr 1
    exact enc_q hv
theorem runes_q {s : ByteArray} {l : List Int} (h : rune.runesF s = some l) : byB s.data.toList = byR l := by
  have h1 : s.data.toList.drop 0 = rune.joinL l := rune.cut_join h
  rw [List.drop_zero] at h1
  rw [h1, byR_join l (fun x hx => cut_valid h x hx)]
theorem join_len : ∀ (l : List Int), (∀ x ∈ l, ∃ n : Nat, x = (n : Int) ∧ rune.valid n) → l.length ≤ (rune.joinL l).length
  | [], _ => Nat.zero_le _
  | x :: r, h => by
    obtain ⟨n, rfl, hv⟩ := h x (List.mem_cons_self ..)
    have ih := join_len r (fun y hy => h y (List.mem_cons_of_mem _ hy))
    have h1 := rune.enc_pos n
    have h2 : (rune.textF (n : Int)).data.toList.length = (rune.enc n).length := by
      have h3 := rune.text_size hv
      rw [← h3]; simp
    rw [rune.joinL_cons, List.length_append, List.length_cons]
    omega
theorem runes_len {s : ByteArray} {l : List Int} (h : rune.runesF s = some l) : l.length ≤ s.size := by
  have h1 : s.data.toList.drop 0 = rune.joinL l := rune.cut_join h
  have h2 := join_len l (fun x hx => cut_valid h x hx)
  have h3 : s.data.toList.length = s.size := by simp
  rw [List.drop_zero] at h1
  rw [← h1] at h2
  omega
/-- The quoted form of a text that has one. -/
def wrap (l : List UInt8) : ByteArray := ⟨((34 :: l) ++ [34]).toArray⟩
noncomputable def quotedF (s : ByteArray) : ByteArray := match rune.runesF s with
  | some l => wrap (byB s.data.toList)
  | none => ⟨#[]⟩
theorem quoted_yes {s : ByteArray} {l : List Int} (h : rune.runesF s = some l) : quotedF s = wrap (byB s.data.toList) := by unfold quotedF; rw [h]
theorem quoted_no {s : ByteArray} (h : rune.runesF s = none) : quotedF s = ⟨#[]⟩ := by unfold quotedF; rw [h]
end Go.Proofs.YtfggpcahfpjgmaaDoor.quote
namespace Go.Proofs.YtfggpcahfpjgmaaDoor.say
open Go Go.RowKit tree
set_option linter.unusedVariables false

def nullL : List UInt8 := [110, 117, 108, 108]
def trueL : List UInt8 := [116, 114, 117, 101]
def falseL : List UInt8 := [102, 97, 108, 115, 101]
def joinC : List (List UInt8) → List UInt8
  | [] => []
  | [x] => x
  | x :: y :: r => x ++ 44 :: joinC (y :: r)
theorem joinC_cons (x : List UInt8) {l : List (List UInt8)} (h : l ≠ []) : joinC (x :: l) = x ++ 44 :: joinC l := by
  cases l with
  | nil => exact absurd rfl h
  | cons y r => rfl
theorem joinC_snoc : ∀ (l : List (List UInt8)) (x : List UInt8), joinC (l ++ [x]) = if l = [] then x else joinC l ++ 44 :: x
  | [], x => rfl
  | [y], x => by simp [joinC]
  | y :: z :: r, x => by
    have ih := joinC_snoc (z :: r) x
    rw [if_neg (by simp)] at ih ⊢
    show y ++ 44 :: joinC ((z :: r) ++ [x]) = _
    rw [ih]
    simp [joinC]
noncomputable def quoteL (s : ByteArray) : List UInt8 := (quote.quotedF s).data.toList
noncomputable def pairL (k : ByteArray) (x : List UInt8) : List UInt8 := quoteL k ++ 58 :: x
mutual
noncomputable def say : T → List UInt8
  | .mk k fl n s ks kids =>
    if k = 1 then nullL else if k = 2 then (if fl then trueL else falseL) else if k = 3 then Lib.itoa n else if k = 4 then quoteL s
    else if k = 5 then 91 :: (joinC (says kids) ++ [93]) else 123 :: (joinC (List.zipWith pairL ks (says kids)) ++ [125])
noncomputable def says : List T → List (List UInt8)
  | [] => []
  | t :: r => say t :: says r
end
theorem says_map : ∀ l : List T, says l = l.map say
  | [] => rfl
  | t :: r => by rw [says, says_map r]; rfl
theorem say1 (fl : Bool) (n : Int) (s : ByteArray) (ks : List ByteArray) (kids : List T) : say (.mk 1 fl n s ks kids) = nullL := by rw [say]; rfl
theorem say2 (fl : Bool) (n : Int) (s : ByteArray) (ks : List ByteArray) (kids : List T) : say (.mk 2 fl n s ks kids) = if fl then trueL else falseL := by rw [say]; rfl
theorem say3 (fl : Bool) (n : Int) (s : ByteArray) (ks : List ByteArray) (kids : List T) : say (.mk 3 fl n s ks kids) = Lib.itoa n := by rw [say]; rfl
theorem say4 (fl : Bool) (n : Int) (s : ByteArray) (ks : List ByteArray) (kids : List T) : say (.mk 4 fl n s ks kids) = quoteL s := by rw [say]; rfl
theorem say5 (fl : Bool) (n : Int) (s : ByteArray) (ks : List ByteArray) (kids : List T) : say (.mk 5 fl n s ks kids) = 91 :: (joinC (kids.map say) ++ [93]) := by rw [say, says_map]; rfl
theorem say6 (fl : Bool) (n : Int) (s : ByteArray) (ks : List ByteArray) (kids : List T) : say (.mk 6 fl n s ks kids) = 123 :: (joinC (List.zipWith pairL ks (kids.map say)) ++ [125]) := by rw [say, says_map]; rfl

/-! How long it is. -/
theorem quoteL_le (s : ByteArray) : (quoteL s).length ≤ 6 * s.size + 2 := by
  unfold quoteL
  cases h : rune.runesF s with
  | none => rw [quote.quoted_no h]; simp
  | some l =>
    rw [quote.quoted_yes h]
    show ((34 :: quote.byB s.data.toList) ++ [34]).length ≤ _
    have : ∀ l : List UInt8, (quote.byB l).length ≤ 6 * l.length := by
      intro l
      induction l with
      | nil => simp [quote.byB]
      | cons b r ih =>
        unfold quote.byB at ih ⊢
        rw [List.flatMap_cons, List.length_append, List.length_cons]
        have := quote.qB_le b
        omega
    have h2 := this s.data.toList
    have h3 : s.data.toList.length = s.size := by simp
    simp only [List.length_append, List.length_cons, List.length_nil]
    omega
theorem joinC_le : ∀ l : List (List UInt8), (joinC l).length + 1 ≤ 1 + (l.map (fun x => x.length + 1)).sum
  | [] => by simp [joinC]
  | [x] => by simp [joinC]
  | x :: y :: r => by
    have := joinC_le (y :: r)
    simp only [joinC, List.length_append, List.length_cons, List.map_cons, List.sum_cons] at this ⊢
    omega
theorem dec_len : ∀ (k u : Nat), u < 10 ^ (k + 1) → (Lib.decDigits u).length ≤ k + 1
  | 0, u, h => by rw [Lib.decDigits, dif_pos (by simpa using h)]; simp
  | k + 1, u, h => by
    by_cases h2 : u < 10
    · rw [Lib.decDigits, dif_pos h2]; simp
    · rw [Lib.decDigits, dif_neg h2, List.length_append, List.length_singleton]
      have := dec_len k (u / 10) (by rw [Nat.pow_succ] at h; omega)
      omega
theorem itoa_le (n : Int) (h0 : -9223372036854775808 ≤ n) (h1 : n ≤ 9223372036854775807) : (Lib.itoa n).length ≤ 20 := by
  unfold Lib.itoa
  split
  · have := dec_len 18 n.natAbs (by omega)
    rw [List.length_cons]; omega
  · have := dec_len 18 n.toNat (by omega)
    omega
mutual
/-- Every number fits. -/
def Nums : T → Prop
  | .mk _ _ n _ _ kids => (-9223372036854775808 ≤ n ∧ n ≤ 9223372036854775807) ∧ Numss kids
def Numss : List T → Prop
  | [] => True
  | t :: r => Nums t ∧ Numss r
end
theorem numss_iff : ∀ l : List T, Numss l ↔ ∀ x ∈ l, Nums x
  | [] => by simp [Numss]
  | t :: r => by rw [Numss, numss_iff r]; simp
set_option maxRecDepth 100000 in
theorem sum_says : ∀ (kids : List T), (∀ x ∈ kids, (say x).length + 2404 ≤ 5000 * size x) → ((kids.map say).map (fun x => x.length + 1)).sum + 2403 * kids.length ≤ 5000 * sizes kids
  | [], _ => by simp
  | t :: r, h => by
    have h1 := h t List.mem_cons_self
    have h2 := sum_says r (fun x hx => h x (List.mem_cons_of_mem _ hx))
    rw [sizes, List.map_cons, List.map_cons, List.sum_cons, List.length_cons]
    clear h
    generalize ((r.map say).map (fun x => x.length + 1)).sum = a at h2 ⊢
    generalize sizes r = b at h2 ⊢
    generalize size t = c at h1 ⊢
    generalize (say t).length = d at h1 ⊢
    generalize r.length = e at h2 ⊢
    rw [Nat.mul_add, Nat.mul_add]
    omega
set_option maxRecDepth 100000 in
theorem sum_pairs : ∀ (ks : List ByteArray) (ls : List (List UInt8)), (∀ k ∈ ks, k.size ≤ 400) → ((List.zipWith pairL ks ls).map (fun x => x.length + 1)).sum ≤ (ls.map (fun x => x.length + 1)).sum + 2403 * ls.length
  | [], ls, _ => by simp
  | k :: ks, [], _ => by simp
  | k :: ks, l :: ls, h => by
    have h1 := sum_pairs ks ls (fun x hx => h x (List.mem_cons_of_mem _ hx))
    have h2 := quoteL_le k
    have h3 := h k List.mem_cons_self
    rw [List.zipWith_cons_cons, List.map_cons, List.map_cons, List.sum_cons, List.sum_cons, List.length_cons]
    have h4 : (pairL k l).length = (quoteL k).length + (l.length + 1) := by simp [pairL]
    generalize ((List.zipWith pairL ks ls).map (fun x => x.length + 1)).sum = a at h1 ⊢
    generalize (ls.map (fun x => x.length + 1)).sum = b at h1 ⊢
    generalize (pairL k l).length = c at h4 ⊢
    generalize (quoteL k).length = d at h4 h2
    generalize k.size = e at h2 h3
    clear h
    rw [Nat.mul_add]
    omega
set_option maxRecDepth 100000 in
theorem say_le : ∀ (t : T), Shape t → Nums t → (say t).length + 2404 ≤ 5000 * size t := by
  refine T.ind fun k fl n s ks kids ih hsh hn => ?_
  rw [Shape, shapes_iff] at hsh
  rw [Nums, numss_iff] at hn
  obtain ⟨⟨f1, f2, f3, f4, f5, f6, f7, f8⟩, ht, hk, hkids⟩ := hsh
  rw [size]
  have hj := sum_says kids (fun x hx => ih x hx (hkids x hx) (hn.2 x hx))
  have hq := quoteL_le s
  have hks : ∀ x ∈ ks, x.size ≤ 400 := fun x hx => by
    obtain ⟨i, hi, rfl⟩ := List.getElem_of_mem hx
    have := (hk i hi).1.1
    rwa [List.getD_eq_getElem?_getD, List.getElem?_eq_getElem hi] at this
  have ht1 := ht.1
  have hi := itoa_le n hn.1.1 hn.1.2
  obtain rfl | rfl | rfl | rfl | rfl | rfl : k = 1 ∨ k = 2 ∨ k = 3 ∨ k = 4 ∨ k = 5 ∨ k = 6 := by omega
  · rw [say1]; simp only [nullL, List.length_cons, List.length_nil]; omega
  · rw [say2]; split <;> simp only [trueL, falseL, List.length_cons, List.length_nil] <;> omega
  · rw [say3]; omega
  · rw [say4]; omega
  · rw [say5]
    have := joinC_le (kids.map say)
    simp only [List.length_cons, List.length_append, List.length_nil]
    omega
  · rw [say6]
    have := joinC_le (List.zipWith pairL ks (kids.map say))
    have h2 := sum_pairs ks (kids.map say) hks
    rw [List.length_map] at h2
    simp only [List.length_cons, List.length_append, List.length_nil]
    omega
/-- The text's rounds: what stands behind j elements. -/
theorem join_take (l : List (List UInt8)) (j : Nat) (h : j < l.length) : joinC (l.take (j + 1)) = if j = 0 then l[j] else joinC (l.take j) ++ 44 :: l[j] := by
  rw [List.take_succ_eq_append_getElem h, joinC_snoc]
  by_cases hj : j = 0
  · subst hj; simp
  · rw [if_neg (by intro e; have := congrArg List.length e; rw [List.length_take, List.length_nil] at this; omega), if_neg hj]
theorem join_len (l : List (List UInt8)) (j : Nat) : (joinC (l.take j)).length ≤ (joinC l).length := by
  by_cases h : j < l.length
  · have h2 := join_len l (j + 1)
    rw [join_take l j h] at h2
    split at h2
    · rename_i e; subst e; simp [joinC]
    · simp only [List.length_append] at h2; omega
  · rw [List.take_of_length_le (by omega)]; exact Nat.le_refl _
termination_by l.length - j
end Go.Proofs.YtfggpcahfpjgmaaDoor.say
