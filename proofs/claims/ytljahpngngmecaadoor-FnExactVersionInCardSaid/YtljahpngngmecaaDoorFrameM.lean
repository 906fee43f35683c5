/- Plain mathematics of frames: a header, a payload, a checksum; one reads what was written; a burst is seen. -/
import Derived.Test.YtljahpngngmecaaDoorSumM
namespace Go.Proofs.YtljahpngngmecaaDoor.frame
open Go Go.RowKit
open crc fixed
set_option linter.unusedVariables false

def magic : ByteArray := ⟨#[66, 69, 82, 84, 72]⟩
def okF (v : Int) (p : ByteArray) : Bool := decide (1 ≤ v) && decide (v ≤ 9) && decide (p.size ≤ 19980)
theorem ok_iff (v : Int) (p : ByteArray) : okF v p = true ↔ 1 ≤ v ∧ v ≤ 9 ∧ p.size ≤ 19980 := by unfold okF; simp [and_assoc]
theorem ok_yes {v : Int} {p : ByteArray} (h1 : 1 ≤ v) (h2 : v ≤ 9) (h3 : p.size ≤ 19980) : okF v p = true := (ok_iff v p).2 ⟨h1, h2, h3⟩
theorem ok_no {v : Int} {p : ByteArray} (h : ¬ (1 ≤ v ∧ v ≤ 9 ∧ p.size ≤ 19980)) : okF v p = false := by
  cases e : okF v p with
  | false => rfl
  | true => exact absurd ((ok_iff v p).1 e) h
/-- What lies ahead of the sum. -/
noncomputable def openB (v : Int) (p : ByteArray) : ByteArray := magic ++ ⟨#[UInt8.ofNat v.toNat]⟩ ++ fixF (p.size : Int) 4 ++ p
theorem fix_len {n : Nat} (h : n ≤ 19980) : fixF (n : Int) 4 = ⟨(fixL n 4).toArray⟩ := fix_yes (w := 4) (by decide) (by decide) (by show n < 4294967296; omega)
theorem openB_list {v : Int} {p : ByteArray} (h : p.size ≤ 19980) : (openB v p).data.toList = [66, 69, 82, 84, 72] ++ (UInt8.ofNat v.toNat :: (fixL p.size 4 ++ p.data.toList)) := by
  unfold openB magic
  rw [fix_len h]
  simp
theorem openB_size {v : Int} {p : ByteArray} (h : p.size ≤ 19980) : (openB v p).size = 10 + p.size := by
  have e : (openB v p).data.toList.length = 10 + p.size := by
    rw [openB_list h]
    simp [fixL_length]
    omega
  have e2 : (openB v p).data.toList.length = (openB v p).size := by simp
  omega
noncomputable def frameF (v : Int) (p : ByteArray) : ByteArray := if okF v p = true then sealB (openB v p) else ⟨#[]⟩
theorem frame_yes {v : Int} {p : ByteArray} (h : okF v p = true) : frameF v p = sealB (openB v p) := by unfold frameF; rw [if_pos h]
theorem frame_no {v : Int} {p : ByteArray} (h : okF v p = false) : frameF v p = ⟨#[]⟩ := by unfold frameF; rw [if_neg (by rw [h]; decide)]
theorem frame_size {v : Int} {p : ByteArray} (h : okF v p = true) : (frameF v p).size = 14 + p.size := by
  rw [frame_yes h, sealB_size, openB_size ((ok_iff v p).1 h).2.2]
  omega
theorem frame_list {v : Int} {p : ByteArray} (h : okF v p = true) : ∃ post : List UInt8, post.length = 4 ∧ (frameF v p).data.toList = [66, 69, 82, 84, 72] ++ (UInt8.ofNat v.toNat :: (fixL p.size 4 ++ (p.data.toList ++ post))) := by
  refine ⟨fixL (sum (openB v p).data.toList) 4, fixL_length _ _, ?_⟩
  rw [frame_yes h, sealB_list]
  unfold seal_
  rw [openB_list ((ok_iff v p).1 h).2.2]
  simp

/-! Reading. -/
def zeroB : ByteArray := ⟨#[]⟩
open Classical in
noncomputable def readF (s : ByteArray) : (Int × ByteArray) × Int :=
  if s.size < 14 then ((0, ⟨#[]⟩), 1)
  else if ¬ s.extract 0 5 = magic then ((0, ⟨#[]⟩), 2)
  else if ¬ (1 ≤ at_ s 5 ∧ at_ s 5 ≤ 9) then ((0, ⟨#[]⟩), 3)
  else if ¬ (val s 6 4 = (s.size : Int) - 14 ∧ s.size ≤ 19994) then ((0, ⟨#[]⟩), 4)
  else if ¬ (unF s).2 = true then ((0, ⟨#[]⟩), 5)
  else ((at_ s 5, s.extract 10 (s.size - 4)), 0)
theorem read_short {s : ByteArray} (h : s.size < 14) : readF s = ((0, ⟨#[]⟩), 1) := by unfold readF; rw [if_pos h]
theorem read_magic {s : ByteArray} (h : ¬ s.size < 14) (h1 : ¬ s.extract 0 5 = magic) : readF s = ((0, ⟨#[]⟩), 2) := by unfold readF; rw [if_neg h, if_pos h1]
theorem read_version {s : ByteArray} (h : ¬ s.size < 14) (h1 : s.extract 0 5 = magic) (h2 : ¬ (1 ≤ at_ s 5 ∧ at_ s 5 ≤ 9)) : readF s = ((0, ⟨#[]⟩), 3) := by
  unfold readF; rw [if_neg h, if_neg (fun e => e h1), if_pos h2]
theorem read_length {s : ByteArray} (h : ¬ s.size < 14) (h1 : s.extract 0 5 = magic) (h2 : 1 ≤ at_ s 5 ∧ at_ s 5 ≤ 9) (h3 : ¬ (val s 6 4 = (s.size : Int) - 14 ∧ s.size ≤ 19994)) : readF s = ((0, ⟨#[]⟩), 4) := by
  unfold readF; rw [if_neg h, if_neg (fun e => e h1), if_neg (fun e => e h2), if_pos h3]
theorem read_sum {s : ByteArray} (h : ¬ s.size < 14) (h1 : s.extract 0 5 = magic) (h2 : 1 ≤ at_ s 5 ∧ at_ s 5 ≤ 9) (h3 : val s 6 4 = (s.size : Int) - 14 ∧ s.size ≤ 19994) (h4 : (unF s).2 = false) : readF s = ((0, ⟨#[]⟩), 5) := by
  unfold readF; rw [if_neg h, if_neg (fun e => e h1), if_neg (fun e => e h2), if_neg (fun e => e h3), if_pos (by rw [h4]; decide)]
theorem read_yes {s : ByteArray} (h : ¬ s.size < 14) (h1 : s.extract 0 5 = magic) (h2 : 1 ≤ at_ s 5 ∧ at_ s 5 ≤ 9) (h3 : val s 6 4 = (s.size : Int) - 14 ∧ s.size ≤ 19994) (h4 : (unF s).2 = true) : readF s = ((at_ s 5, s.extract 10 (s.size - 4)), 0) := by
  unfold readF; rw [if_neg h, if_neg (fun e => e h1), if_neg (fun e => e h2), if_neg (fun e => e h3), if_neg (fun e => e h4)]
theorem read_four {s : ByteArray} (h : 14 ≤ s.size) : fixed.readF s 6 4 = some (val s 6 4) := fixed.read_yes (s := s) (p := 6) (w := 4) (by decide) (by decide) (by omega) (fixed.low_fits s 6 4 (by decide))
/-- Where the checksum does not tell a text, no frame is read. -/
theorem read_unsealed (s : ByteArray) (h : (unF s).2 = false) : (readF s).1 = (0, ⟨#[]⟩) ∧ (readF s).2 ≠ 0 := by
  by_cases h0 : s.size < 14
  · rw [read_short h0]; exact ⟨rfl, by decide⟩
  by_cases h1 : s.extract 0 5 = magic
  case neg => rw [read_magic h0 h1]; exact ⟨rfl, by decide⟩
  by_cases h2 : 1 ≤ at_ s 5 ∧ at_ s 5 ≤ 9
  case neg => rw [read_version h0 h1 h2]; exact ⟨rfl, by decide⟩
  by_cases h3 : val s 6 4 = (s.size : Int) - 14 ∧ s.size ≤ 19994
  case neg => rw [read_length h0 h1 h2 h3]; exact ⟨rfl, by decide⟩
  rw [read_sum h0 h1 h2 h3 h]; exact ⟨rfl, by decide⟩

/-! What a text reads as that begins with a header. -/
theorem at_list {s : ByteArray} {l : List UInt8} (h : s.data.toList = l) (i : Nat) : at_ s i = ((l.getD i 0).toNat : Int) := by unfold at_; rw [h]
theorem head_at {s : ByteArray} {v : Int} {n : Nat} {r : List UInt8} (h : s.data.toList = [66, 69, 82, 84, 72] ++ (UInt8.ofNat v.toNat :: (fixL n 4 ++ r))) (h1 : 1 ≤ v) (h2 : v ≤ 9) : at_ s 5 = v := by
  rw [at_list h]
  simp
  omega
theorem head_val {s : ByteArray} {v : Int} {n : Nat} {r : List UInt8} (h : s.data.toList = [66, 69, 82, 84, 72] ++ (UInt8.ofNat v.toNat :: (fixL n 4 ++ r))) (hn : n ≤ 19980) : val s 6 4 = (n : Int) := by
  rw [val_fix s 6 n 4 ?_ 4 (Nat.le_refl _)]
  · rw [Nat.mod_eq_of_lt (by show n < 4294967296; omega)]
  · intro i hi
    rw [at_list h]
    have e : ([66, 69, 82, 84, 72] ++ (UInt8.ofNat v.toNat :: (fixL n 4 ++ r))) = ([66, 69, 82, 84, 72, UInt8.ofNat v.toNat] ++ (fixL n 4 ++ r)) := rfl
    rw [e, List.getD_eq_getElem?_getD, List.getElem?_append_right (by show 6 ≤ 6 + i; omega)]
    have e2 : 6 + i - [66, 69, 82, 84, 72, UInt8.ofNat v.toNat].length = i := by show 6 + i - 6 = i; omega
    rw [e2, List.getElem?_append_left (by rw [fixL_length]; exact hi), ← List.getD_eq_getElem?_getD, fixL_get n 4 i hi]
    simp
theorem head_magic {s : ByteArray} {r : List UInt8} (h : s.data.toList = [66, 69, 82, 84, 72] ++ r) : s.extract 0 5 = magic := by
  apply bytes_ext
  rw [ByteArray.data_extract, Array.toList_extract, h]
  rfl
theorem frame_un {v : Int} {p : ByteArray} (h : okF v p = true) : unF (frameF v p) = (openB v p, true) := by
  rw [frame_yes h]
  exact un_seal _ (by rw [openB_size ((ok_iff v p).1 h).2.2]; have := ((ok_iff v p).1 h).2.2; omega)
/-- One reads what was written. -/
theorem read_frame {v : Int} {p : ByteArray} (h : okF v p = true) : readF (frameF v p) = ((v, p), 0) := by
  have hk := (ok_iff v p).1 h
  have hs := frame_size h
  have hu := frame_un h
  obtain ⟨post, hp, hl⟩ := frame_list h
  rw [read_yes (by omega) (head_magic hl) (by rw [head_at hl hk.1 hk.2.1]; exact ⟨hk.1, hk.2.1⟩) ⟨by rw [head_val hl hk.2.2, hs]; omega, by omega⟩ (by rw [hu]), head_at hl hk.1 hk.2.1]
  have e : (frameF v p).extract 10 ((frameF v p).size - 4) = p := by
    apply bytes_ext
    rw [ByteArray.data_extract, Array.toList_extract, hl, hs, List.extract_eq_take_drop]
    have e1 : ([66, 69, 82, 84, 72] ++ (UInt8.ofNat v.toNat :: (fixL p.size 4 ++ (p.data.toList ++ post)))) = (([66, 69, 82, 84, 72, UInt8.ofNat v.toNat] ++ fixL p.size 4) ++ (p.data.toList ++ post)) := by simp
    rw [e1, List.drop_left' (by rw [List.length_append, fixL_length]; rfl), show 14 + p.size - 4 - 10 = p.size by omega, List.take_left' (by simp)]
  rw [e]
/-- And nothing else: what reads as a frame is its text. -/
theorem read_only {s : ByteArray} (h : (readF s).2 = 0) : okF (readF s).1.1 (readF s).1.2 = true ∧ frameF (readF s).1.1 (readF s).1.2 = s := by
  by_cases h0 : s.size < 14
  · rw [read_short h0] at h; exact absurd h (by decide)
  by_cases h1 : s.extract 0 5 = magic
  case neg => rw [read_magic h0 h1] at h; exact absurd h (by decide)
  by_cases h2 : 1 ≤ at_ s 5 ∧ at_ s 5 ≤ 9
  case neg => rw [read_version h0 h1 h2] at h; exact absurd h (by decide)
  by_cases h3 : val s 6 4 = (s.size : Int) - 14 ∧ s.size ≤ 19994
  case neg => rw [read_length h0 h1 h2 h3] at h; exact absurd h (by decide)
  cases h4 : (unF s).2 with
  | false => rw [read_sum h0 h1 h2 h3 h4] at h; exact absurd h (by decide)
  | true =>
    rw [read_yes h0 h1 h2 h3 h4]
    have hp : (s.extract 10 (s.size - 4)).size = s.size - 14 := by rw [ByteArray.size_extract]; omega
    have hok : okF (at_ s 5) (s.extract 10 (s.size - 4)) = true := ok_yes h2.1 h2.2 (by omega)
    refine ⟨hok, ?_⟩
    show frameF (at_ s 5) (s.extract 10 (s.size - 4)) = s
    rw [frame_yes hok]
    have hsl : sealB (s.extract 0 (s.size - 4)) = s := by
      by_cases hh : 4 ≤ s.size ∧ s.size - 4 ≤ 20000 ∧ sealB (s.extract 0 (s.size - 4)) = s
      · exact hh.2.2
      · rw [un_no hh] at h4; exact absurd h4 (by decide)
    have ho : openB (at_ s 5) (s.extract 10 (s.size - 4)) = s.extract 0 (s.size - 4) := by
      apply bytes_ext
      rw [openB_list (by omega), hp]
      have hl : s.data.toList.length = s.size := by simp
      have hd : ∀ i j, (s.extract i j).data.toList = (s.data.toList.drop i).take (j - i) := fun i j => by rw [ByteArray.data_extract, Array.toList_extract, List.extract_eq_take_drop]
      rw [hd, hd, List.drop_zero, Nat.sub_zero]
      have hm := congrArg (fun x : ByteArray => x.data.toList) h1
      have hm2 : s.data.toList.take 5 = [66, 69, 82, 84, 72] := by
        have h5 := hd 0 5
        rw [List.drop_zero] at h5
        exact h5.symm.trans hm
      have hv3 := h3.1
      unfold at_ at h2 ⊢
      have hfix : fixL (s.size - 14) 4 = (s.data.toList.drop 6).take 4 := by
        have hb : ∀ i, i < 4 → at_ s (6 + i) = ((((s.data.toList.drop 6).take 4).getD i 0).toNat : Int) := fun i hi => by
          unfold at_
          rw [List.getD_eq_getElem?_getD, List.getD_eq_getElem?_getD, List.getElem?_take_of_lt hi, List.getElem?_drop]
        have hlen : ((s.data.toList.drop 6).take 4).length = 4 := by rw [List.length_take, List.length_drop, hl]; omega
        refine num_inj _ _ (by rw [fixL_length, hlen]) ?_
        rw [num_fix, Nat.mod_eq_of_lt (by show s.size - 14 < 4294967296; omega)]
        have hnum : ((num ((s.data.toList.drop 6).take 4) : Nat) : Int) = val s 6 4 := by
          match hq : (s.data.toList.drop 6).take 4, hlen with
          | [a, b, c, d], _ =>
            rw [hq] at hb
            have b0 := hb 0 (by decide)
            have b1 := hb 1 (by decide)
            have b2 := hb 2 (by decide)
            have b3 := hb 3 (by decide)
            simp at b0 b1 b2 b3
            rw [val_succ, val_succ, val_succ, val_succ, val_zero]
            simp only [Nat.add_zero]
            rw [b0, b1, b2, b3]
            simp [num]
            omega
        omega
      rw [hfix, ← hm2]
      generalize s.data.toList = L at hl
      have h6 : 14 ≤ L.length := by omega
      have e6 : UInt8.ofNat ((L.getD 5 0).toNat : Int).toNat = L[5] := by
        rw [List.getD_eq_getElem?_getD, List.getElem?_eq_getElem (by omega), Option.getD_some, Int.toNat_natCast, UInt8.ofNat_toNat]
      rw [e6, show s.size - 4 - 10 = s.size - 14 by omega, ← hl]
      have t1 : L.take (L.length - 4) = L.take 5 ++ (L.drop 5).take (L.length - 9) := by
        conv => lhs; rw [show L.length - 4 = 5 + (L.length - 9) by omega, List.take_add]
      have t2 : (L.drop 5).take (L.length - 9) = L[5] :: (L.drop 6).take (L.length - 10) := by
        rw [List.drop_eq_getElem_cons (by omega), show L.length - 9 = (L.length - 10) + 1 by omega, List.take_succ_cons]
      have t3 : (L.drop 6).take (L.length - 10) = (L.drop 6).take 4 ++ (L.drop 10).take (L.length - 14) := by
        conv => lhs; rw [show L.length - 10 = 4 + (L.length - 14) by omega, List.take_add]
        rw [List.drop_drop]
      rw [t1, t2, t3]
    rw [ho, hsl]
/-- A burst is seen. -/
theorem read_burst {v : Int} {p : ByteArray} (h : okF v p = true) (q B : Nat) (hB : B < 4294967296) (h2 : B % 2 = 1) (hq : q < 8 * (14 + p.size)) :
    (readF (flipF (frameF v p) q B)).1 = (0, ⟨#[]⟩) ∧ (readF (flipF (frameF v p) q B)).2 ≠ 0 := by
  apply read_unsealed
  rw [frame_yes h]
  rw [un_flip _ q B hB h2 (by rw [openB_size ((ok_iff v p).1 h).2.2]; omega)]
/-- A byte less is no frame. -/
theorem read_cut {v : Int} {p : ByteArray} (h : okF v p = true) : (readF ((frameF v p).extract 0 ((frameF v p).size - 1))).2 ≠ 0 := by
  have hk := (ok_iff v p).1 h
  have hs := frame_size h
  intro h0
  have h1 := read_only h0
  have hsz : ((frameF v p).extract 0 ((frameF v p).size - 1)).size = 13 + p.size := by rw [ByteArray.size_extract]; omega
  have h2 := frame_size h1.1
  rw [h1.2, hsz] at h2
  generalize hc : (frameF v p).extract 0 ((frameF v p).size - 1) = c at h0 h1 h2 hsz
  by_cases hp0 : p.size = 0
  · rw [read_short (by omega)] at h0; exact absurd h0 (by decide)
  obtain ⟨post, hpo, hl⟩ := frame_list h
  have hcl : c.data.toList = [66, 69, 82, 84, 72] ++ (UInt8.ofNat v.toNat :: (fixL p.size 4 ++ (p.data.toList ++ post.take 3))) := by
    rw [← hc, ByteArray.data_extract, Array.toList_extract, hl, hs, List.extract_eq_take_drop, List.drop_zero]
    have e1 : ([66, 69, 82, 84, 72] ++ (UInt8.ofNat v.toNat :: (fixL p.size 4 ++ (p.data.toList ++ post)))) = (([66, 69, 82, 84, 72, UInt8.ofNat v.toNat] ++ fixL p.size 4 ++ p.data.toList) ++ post) := by simp
    have e2 : ([66, 69, 82, 84, 72, UInt8.ofNat v.toNat] ++ fixL p.size 4 ++ p.data.toList).length = 10 + p.size := by
      rw [List.length_append, List.length_append, fixL_length]; simp
    rw [e1, show 14 + p.size - 1 - 0 = (10 + p.size) + 3 by omega, ← e2, List.take_append, List.take_of_length_le (Nat.le_add_right _ _), Nat.add_sub_cancel_left]
    simp
  have hv := head_val hcl hk.2.2
  have hm := head_magic hcl
  have ha := head_at hcl hk.1 hk.2.1
  rw [read_length (by omega) hm (by rw [ha]; exact ⟨hk.1, hk.2.1⟩) (by rw [hv]; omega)] at h0
  exact absurd h0 (by decide)
/-- Another version. -/
noncomputable def reF (s : ByteArray) (v : Int) : ByteArray := if (readF s).2 = 0 then frameF v (readF s).1.2 else ⟨#[]⟩
theorem re_frame {v : Int} {p : ByteArray} (h : okF v p = true) (v2 : Int) : reF (frameF v p) v2 = frameF v2 p := by
  unfold reF
  rw [read_frame h, if_pos rfl]
end Go.Proofs.YtljahpngngmecaaDoor.frame
