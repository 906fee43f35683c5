/- Merged: MarkTxt IdI NmI GrB CmpI SqM. -/
import Derived.Test.YtcfbkfmkjggcdaaGreatDoorRows
import Derived.Test.YtcfbkfmkjggcdaaGreatDoorGA0
import Derived.ProofKit
import Derived.OpenShut
import Derived.Test.YtcfbkfmkjggcdaaGreatDoorGA1
import Derived.Test.YtcfbkfmkjggcdaaGreatDoorShelf
import Derived.Shelf.Strings.SlTrimAscii
import Derived.Sort.Grow
namespace Go.Proofs.YtcfbkfmkjggcdaaGreatDoor.lawMark
open Go.ChangeShapes Go.WideShapes Go.ChangeAt Go.RowKit
set_option linter.unusedVariables false

theorem mark_text (m : Int) (w : World) (hm : m ≤ 4611686018427387904) :
    Calls Tryz.prog 134 #[.int .i64 m] w fun e w' => e = .returned (.string (mt m)) ∧ Below w.heap.size w w' := by
  by_cases h0 : m ≤ 0
  · have He := Lib.hid (mt_lo h0)
    go_enter Tryz.func134, Tryz.ntmps134
    go_wp2_with fail
    go_ret
    exact ⟨by rw [He.out]; rfl, Below.refl _ _⟩
  · have He := Lib.hid (mt_hi h0)
    obtain ⟨n0, rfl⟩ := Int.eq_ofNat_of_zero_le (show 0 ≤ m by omega)
    have hn0 : 0 < n0 := by omega
    clear h0
    go_enter Tryz.func134, Tryz.ntmps134
    go_wp2_with fail
    go_loopw [0, 3] (fun a s wr => ∃ (n f : Nat) (acc : List UInt8), n ≤ f ∧ a = .int .i64 n ∧ s = .string ⟨acc.toArray⟩ ∧ acc.length + n ≤ n0 ∧ Hid (dg f n acc = dg n0 n0 []) ∧ Below w.heap.size w wr) (fun a _ _ => (intOf a).toNat)
    case atStart => exact ⟨n0, n0, [], Nat.le_refl _, rfl, rfl, by simp, rfl, Below.refl _ _⟩
    case round =>
      obtain ⟨n, f, acc, hf, rfl, rfl, hlen, hd, hbel⟩ := hrel
      by_cases hpos : 0 < n
      · have e1 : ((n : Int) % 10) = ((n % 10 : Nat) : Int) := by omega
        have hconv := run_convert_own (P := Tryz.prog) (wr.alloc (.cells #[.int .u8 (48 + (n : Int) % 10)] 5)) 22 5 9 Tryz.underlying22 Tryz.underlying5 Tryz.underlying9 wr.heap.size (.slice (some ⟨wr.heap.size, 0, none⟩) 1 1) [UInt8.ofNat (48 + n % 10)] (by
          have h := World.ownsRow_lit (size := 1) (base := wr.heap.size) (e := 5) wr #[.int .u8 (48 + (n : Int) % 10)] 1 (Nat.le_refl _) (by simp [maxLen]) rfl
          have hv : bcells [UInt8.ofNat (48 + n % 10)] = [.int .u8 (48 + (n : Int) % 10)] := by simp [bcells]; omega
          unfold OwnB
          rw [hv]
          exact h)
        clear e1
        obtain ⟨f, rfl⟩ : ∃ f', f = f' + 1 := ⟨f - 1, by omega⟩
        have hstep : dg (f + 1) n acc = dg f (n / 10) (UInt8.ofNat (48 + n % 10) :: acc) := by rw [dg, if_neg (by omega)]
        have Hd : Hid (dg f (n / 10) (UInt8.ofNat (48 + n % 10) :: acc) = dg n0 n0 []) := hstep.symm.trans hd.out
        clear hstep hd
        have hbel2 := hbel.alloc hbel.size (.cells #[.int .u8 (48 + (n : Int) % 10)] 5)
        go_wp2_with fail
        go_roundw
        case rel => exact ⟨n / 10, f, UInt8.ofNat (48 + n % 10) :: acc, by omega, by go_num, by refine (congrArg Value.string (bytes_cons _ _)).trans ?_; simp, by simp; omega, Hd, hbel2⟩
        case measure => simp [intOf]; omega
      · obtain rfl : n = 0 := by omega
        rw [dg_zero] at hd
        have h2 : mt (n0 : Int) = ⟨(109 :: acc).toArray⟩ := by rw [He.out]; simp only [Int.toNat_natCast]; rw [hd.out]
        have H2 := Lib.hid h2
        clear h2
        clear He hd
        go_wp2_with fail
        go_ret
        exact ⟨by rw [H2.out]; exact ret_str (bytes_cons _ _), hbel⟩

end Go.Proofs.YtcfbkfmkjggcdaaGreatDoor.lawMark
namespace Go.Proofs.YtcfbkfmkjggcdaaGreatDoor.lab
open Go.ChangeShapes Go.WideShapes Go.ChangeAt Go.RowKit
set_option linter.unusedVariables false

theorem trim_any (s cs : ByteArray) (w : World) (hs : s.size ≤ 9223372036854775807) (hcs : cs.size < 4294967281) (ha : ∀ (j : Nat) b, cs.data.toList[j]? = some b → b.toNat < 128) :
    Calls Tryz.prog 218 #[.string s, .string cs] w fun e w' => e = .returned (.string ⟨(Lib.trimS s.data.toList cs.data.toList).toArray⟩) ∧ Below w.heap.size w w' :=
  Any.strings_Trim_laid Tryz.lays160 (by kernel_rfl) s cs w hs hcs ha
theorem mk_same {s : ByteArray} {l : List UInt8} : ((⟨l.toArray⟩ : ByteArray) = s) ↔ l = s.data.toList := by
  constructor
  · rintro rfl; rfl
  · rintro rfl; apply ByteArray.ext; apply Array.ext'; rfl
theorem tl_data (s : ByteArray) : s.toList = s.data.toList := ByteArray.toList_eq s
theorem ascii_app {a b : ByteArray} (h1 : ∀ (j : Nat) c, a.data.toList[j]? = some c → c.toNat < 128) (h2 : ∀ (j : Nat) c, b.data.toList[j]? = some c → c.toNat < 128) :
    ∀ (j : Nat) c, (a ++ b).data.toList[j]? = some c → c.toNat < 128 := by
  intro j c h
  have e : (a ++ b).data.toList = a.data.toList ++ b.data.toList := by simp
  rw [e] at h
  rcases List.mem_append.1 (List.mem_of_getElem? h) with h | h
  · obtain ⟨i, hi, rfl⟩ := List.getElem_of_mem h
    exact h1 i _ (List.getElem?_eq_getElem hi)
  · obtain ⟨i, hi, rfl⟩ := List.getElem_of_mem h
    exact h2 i _ (List.getElem?_eq_getElem hi)

set_option maxRecDepth 100000 in
set_option maxHeartbeats 4000000 in
theorem impl_id (s : ByteArray) (most : Nat) (ls ms : ByteArray) (w : World) (hs : s.size ≤ 9223372036854775807) (hm : most ≤ 100) (hls : ls.size ≤ 100) (hms : ms.size ≤ 100)
    (h1 : ∀ (j : Nat) b, ls.data.toList[j]? = some b → b.toNat < 128) (h2 : ∀ (j : Nat) b, ms.data.toList[j]? = some b → b.toNat < 128) :
    Calls Tryz.prog 180 #[.string s, .int .i64 most, .string ls, .string ms] w fun e w' => e = .returned (.bool (yes (IdP most ls.data.toList ms.data.toList s))) ∧ Below w.heap.size w w' := by
  obtain ⟨R, hR⟩ : ∃ R, yes (IdP most ls.data.toList ms.data.toList s) = R := ⟨_, rfl⟩
  rw [hR]
  have Hno : Hid (¬ IdP most ls.data.toList ms.data.toList s → R = false) := fun h => by rw [← hR]; exact yes_f h
  have Hyes : Hid (IdP most ls.data.toList ms.data.toList s → R = true) := fun h => by rw [← hR]; exact yes_t h
  have HT1 := Lib.hid (fun w => trim_any s ms w hs (by omega) h2)
  have HT2 := Lib.hid (fun w => trim_any s (ls ++ ms) w hs (by rw [ByteArray.size_append]; omega) (ascii_app h1 h2))
  have hap : (ls ++ ms).data.toList = ls.data.toList ++ ms.data.toList := by simp
  rw [hap] at HT2
  have hsum : ¬ 9223372036854775807 < ls.size + ms.size := by omega
  clear hR h1 h2 hap
  by_cases h0 : s.size = 0
  · have Hf := Lib.hid (Hno.out fun h => by have := h.1; omega)
    have he : (s.toList == []) = true := by
      have : s.toList.length = 0 := by rw [tl_data, size_l]; exact h0
      rw [List.eq_nil_of_length_eq_zero this]; rfl
    clear Hno Hyes HT1 HT2 h0 hls hms
    go_enter Tryz.func180, Tryz.ntmps180
    go_wp2_with fail
    go_ret
    exact ⟨by rw [Hf.out]; rfl, Below.refl _ _⟩
  have he : (s.toList == []) = false := by
    rw [beq_eq_false_iff_ne]
    intro e
    apply h0
    rw [← size_l, ← tl_data, e]; rfl
  by_cases hl : most < s.size
  · have Hf := Lib.hid (Hno.out fun h => by have := h.2.1; omega)
    clear Hno Hyes HT1 HT2 h0 hls hms
    go_enter Tryz.func180, Tryz.ntmps180
    go_wp2_with fail
    go_ret
    exact ⟨by rw [Hf.out]; rfl, Below.refl _ _⟩
  by_cases ht : Lib.trimS s.data.toList ms.data.toList = s.data.toList
  case neg =>
    have Hf := Lib.hid (Hno.out fun h => ht h.2.2.1)
    generalize Lib.trimS s.data.toList ms.data.toList = t at HT1 ht
    have hne : (t == s.toList) = false := beq_eq_false_iff_ne.2 (by rw [tl_data]; exact ht)
    clear Hno Hyes HT2 h0 hls hms ht
    go_enter Tryz.func180, Tryz.ntmps180
    go_wp2_with fail
    refine (HT1.out _).mono ?_
    rintro e w1 ⟨rfl, hb⟩
    go_wp2_with fail
    go_ret
    exact ⟨by rw [Hf.out]; rfl, hb⟩
  have Hmk := Lib.hid (fun (h3 : Lib.trimS s.data.toList (ls.data.toList ++ ms.data.toList) = []) => Hyes.out ⟨by omega, by omega, ht, h3⟩)
  have Hno2 := Lib.hid (fun (h3 : ¬ Lib.trimS s.data.toList (ls.data.toList ++ ms.data.toList) = []) => Hno.out fun h => h3 h.2.2.2)
  generalize Lib.trimS s.data.toList ms.data.toList = t at HT1 ht
  have hne : (t == s.toList) = true := beq_iff_eq.2 (by rw [tl_data]; exact ht)
  clear ht Hno Hyes h0 hls hms
  generalize Lib.trimS s.data.toList (ls.data.toList ++ ms.data.toList) = u at HT2 Hmk Hno2
  by_cases hu : u = []
  · have Hf := Lib.hid (Hmk.out hu)
    subst hu
    clear Hmk Hno2
    go_enter Tryz.func180, Tryz.ntmps180
    go_wp2_with fail
    refine (HT1.out _).mono ?_
    rintro e w1 ⟨rfl, hb⟩
    go_wp2_with fail
    refine (HT2.out _).mono ?_
    rintro e w2 ⟨rfl, hb2⟩
    go_wp2_with fail
    go_ret
    exact ⟨by rw [Hf.out]; rfl, hb.trans (hb2.mono hb.size)⟩
  · have Hf := Lib.hid (Hno2.out hu)
    have hne2 : (u == []) = false := beq_eq_false_iff_ne.2 hu
    clear Hmk Hno2 hu
    go_enter Tryz.func180, Tryz.ntmps180
    go_wp2_with fail
    refine (HT1.out _).mono ?_
    rintro e w1 ⟨rfl, hb⟩
    go_wp2_with fail
    refine (HT2.out _).mono ?_
    rintro e w2 ⟨rfl, hb2⟩
    go_wp2_with fail
    go_ret
    exact ⟨by rw [Hf.out]; rfl, hb.trans (hb2.mono hb.size)⟩
theorem impl_key (s : ByteArray) (w : World) (hs : s.size ≤ 9223372036854775807) :
    Calls Tryz.prog 204 #[.string s] w fun e w' => e = .returned (.bool (yes (KeyP s))) ∧ Below w.heap.size w w' := by
  have H := Lib.hid (impl_id s 30 ⟨allL.toArray⟩ ⟨#[45, 95, 46, 47]⟩ w hs (by decide) (by decide) (by decide) (ascii_of_all (by decide)) (ascii_of_all (by decide)))
  have e : yes (IdP 30 (⟨allL.toArray⟩ : ByteArray).data.toList (⟨#[45, 95, 46, 47]⟩ : ByteArray).data.toList s) = yes (KeyP s) := by
    congr 1; exact propext (key_iff s).symm
  rw [e] at H
  clear e
  generalize yes (KeyP s) = R at H
  unfold allL lowL at H
  go_enter Tryz.func204, Tryz.ntmps204
  go_wp2_with fail
  refine H.out.mono ?_
  rintro e w1 ⟨rfl, hb⟩
  go_wp2_with fail
  go_ret
  exact ⟨rfl, hb⟩
theorem impl_val (s : ByteArray) (w : World) (hs : s.size ≤ 9223372036854775807) :
    Calls Tryz.prog 205 #[.string s] w fun e w' => e = .returned (.bool (yes (ValP s))) ∧ Below w.heap.size w w' := by
  have H := Lib.hid (impl_id s 20 ⟨allL.toArray⟩ ⟨#[45, 95, 46]⟩ w hs (by decide) (by decide) (by decide) (ascii_of_all (by decide)) (ascii_of_all (by decide)))
  by_cases h0 : s.size = 0
  · have Hf := Lib.hid (yes_t (p := ValP s) (.inl h0))
    have he : (s.toList == []) = true := by
      have : s.toList.length = 0 := by rw [tl_data, size_l]; exact h0
      rw [List.eq_nil_of_length_eq_zero this]; rfl
    clear H h0
    go_enter Tryz.func205, Tryz.ntmps205
    go_wp2_with fail
    go_ret
    exact ⟨by rw [Hf.out]; rfl, Below.refl _ _⟩
  have he : (s.toList == []) = false := by
    rw [beq_eq_false_iff_ne]
    intro e
    apply h0
    rw [← size_l, ← tl_data, e]; rfl
  have e : yes (IdP 20 (⟨allL.toArray⟩ : ByteArray).data.toList (⟨#[45, 95, 46]⟩ : ByteArray).data.toList s) = yes (ValP s) := by
    congr 1
    refine propext ?_
    rw [val_iff]
    constructor
    · exact fun h => .inr h
    · rintro (h | h)
      · exact absurd h h0
      · exact h
  rw [e] at H
  clear e h0
  generalize yes (ValP s) = R at H
  unfold allL lowL at H
  go_enter Tryz.func205, Tryz.ntmps205
  go_wp2_with fail
  refine H.out.mono ?_
  rintro e w1 ⟨rfl, hb⟩
  go_wp2_with fail
  go_ret
  exact ⟨rfl, hb⟩
end Go.Proofs.YtcfbkfmkjggcdaaGreatDoor.lab
namespace Go.Proofs.YtcfbkfmkjggcdaaGreatDoor.lab
open Go.ChangeShapes Go.WideShapes Go.ChangeAt Go.RowKit
set_option linter.unusedVariables false

theorem impl_name (s : ByteArray) (w : World) (hs : s.size ≤ 9223372036854775807) :
    Calls Tryz.prog 105 #[.string s] w fun e w' => e = .returned (.bool (yes (NameP s))) ∧ Below w.heap.size w w' := by
  have H := Lib.hid (impl_id s 20 ⟨lowL.toArray⟩ ⟨#[45]⟩ w hs (by decide) (by decide) (by decide) (ascii_of_all (by decide)) (ascii_of_all (by decide)))
  have e : yes (IdP 20 (⟨lowL.toArray⟩ : ByteArray).data.toList (⟨#[45]⟩ : ByteArray).data.toList s) = yes (NameP s) := by
    congr 1; exact propext (name_iff s).symm
  rw [e] at H
  clear e
  generalize yes (NameP s) = R at H
  unfold lowL at H
  go_enter Tryz.func105, Tryz.ntmps105
  go_wp2_with fail
  refine H.out.mono ?_
  rintro e w1 ⟨rfl, hb⟩
  go_wp2_with fail
  go_ret
  exact ⟨rfl, hb⟩
end Go.Proofs.YtcfbkfmkjggcdaaGreatDoor.lab
namespace Go.Proofs.YtcfbkfmkjggcdaaGreatDoor
open Go Go.RowKit
set_option linter.unusedVariables false

def Gr (w w' : World) : Prop := ∃ q os, w' = Sort.grow (w.drewN q) os
theorem Gr.refl (w : World) : Gr w w := ⟨0, #[], by rw [Sort.grow_empty]; rfl⟩
theorem Gr.trans {a b c : World} (h : Gr a b) (k : Gr b c) : Gr a c := by
  obtain ⟨q, os, rfl⟩ := h
  obtain ⟨q', os', rfl⟩ := k
  refine ⟨q + q', os ++ os', ?_⟩
  show Sort.grow (Sort.grow ((a.drewN q).drewN q') os) os' = _
  rw [Sort.grow_grow, World.drewN_drewN]
theorem Gr.alloc {a w : World} (h : Gr a w) (o : Obj) : Gr a (w.alloc o) := h.trans ⟨0, #[o], by rw [Sort.alloc_eq_grow]; rfl⟩
theorem Gr.drewN {a w : World} (h : Gr a w) (n : Nat) : Gr a (w.drewN n) := h.trans ⟨n, #[], by rw [Sort.grow_empty]⟩
theorem Gr.drew {a w : World} (h : Gr a w) : Gr a w.drew := h.trans ⟨1, #[], by rw [Sort.grow_empty]; rfl⟩
theorem Gr.below {w w' : World} (h : Gr w w') : Below w.heap.size w w' := by
  obtain ⟨q, os, rfl⟩ := h
  refine ⟨rfl, rfl, rfl, ?_, fun k hk => ?_⟩
  · show w.heap.size ≤ (w.heap ++ os).size
    simp
  · show (w.heap ++ os)[k]? = w.heap[k]?
    rw [Array.getElem?_append_left hk]
structure GrBy (w : World) where
  v : World
  h : Gr w v
def GrBy.start (w : World) : GrBy w := ⟨w.drewN 1, (Gr.refl w).drewN 1⟩
instance (w : World) : Inhabited (GrBy w) := ⟨GrBy.start w⟩
theorem wp_region_quiet_gr {P : Program} {id : Nat} {Q : Exit → Act → World → Prop} {a : Act} {w : World} {l : List Oper} (hm : P.follows .mixedOrders = true) (hB : Region.lexB .any l.toArray = true)
    (h : wpQuiet P l.toArray (fun w' => ∃ p : GrBy w, w' = p.v) (fun a' => ∀ w', (∃ p : GrBy w, w' = p.v) → Q .normal a' w') l a) : (Code.region id l.toArray true).wp P Q a w :=
  wp_region_quiet (C := fun w' => ∃ p : GrBy w, w' = p.v) hm hB ⟨GrBy.start w, rfl⟩ (by simpa using h)
theorem GrBy.cell {w : World} {a : Addr} {v : Value} (hb : a.block < w.heap.size) (h : w.cell? a = some v) (p : GrBy w) : p.v.cell? a = some v :=
  (World.cell?_of_block (p.h.below.block _ hb)).trans h
/-- A callee's contract, met in a world of the class. -/
theorem Calls.gr_of {P : Program} {f : FuncId} {args : Array Value} {w : World} {p : GrBy w} {v : Value}
    (h : Calls P f args p.v fun e w' => e = .returned v ∧ Gr p.v w') : Calls P f args p.v fun e w'' => e = .returned v ∧ ∃ q : GrBy w, w'' = q.v :=
  h.mono fun _ w' ⟨he, hw⟩ => ⟨he, ⟨w', p.h.trans hw⟩, rfl⟩
/-- A contract in the finer form gives the coarser one. -/
theorem gr_below {P : Program} {f : FuncId} {args : Array Value} {w : World} {E : Ending} (h : Calls P f args w fun e w' => e = E ∧ Gr w w') : Calls P f args w fun e w' => e = E ∧ Below w.heap.size w w' :=
  h.mono fun _ _ ⟨he, hg⟩ => ⟨he, hg.below⟩
theorem drew_gr {P : Program} {f : FuncId} {args : Array Value} {w : World} {E : Ending} (h : Calls P f args w fun e w' => e = E ∧ ∃ n, w' = w.drewN n) : Calls P f args w fun e w' => e = E ∧ Gr w w' :=
  h.mono fun _ _ ⟨he, n, hn⟩ => ⟨he, by rw [hn]; exact (Gr.refl w).drewN n⟩
end Go.Proofs.YtcfbkfmkjggcdaaGreatDoor
namespace Go.Proofs.YtcfbkfmkjggcdaaGreatDoor.arith
open Go.ChangeShapes Go.WideShapes Go.ChangeAt Go.RowKit
set_option linter.unusedVariables false

theorem impl_cmp (a b : Int) (w : World) :
    Calls Tryz.prog 170 #[.int .i64 a, .int .i64 b] w fun e w' => e = .returned (.int .i64 (cmpF a b)) ∧ w = w' := by
  have hc : (if a < b then (-1 : Int) else if b < a then 1 else 0) = cmpF a b := rfl
  by_cases h1 : a < b
  · rw [if_pos h1] at hc
    rw [← hc]; clear hc
    go_enter Tryz.func170, Tryz.ntmps170
    go_wp2
    all_goals go_ret
    all_goals exact ⟨rfl, rfl⟩
  by_cases h2 : b < a
  · rw [if_neg h1, if_pos h2] at hc
    rw [← hc]; clear hc
    go_enter Tryz.func170, Tryz.ntmps170
    go_wp2
    all_goals go_ret
    all_goals exact ⟨rfl, rfl⟩
  · rw [if_neg h1, if_neg h2] at hc
    rw [← hc]; clear hc
    go_enter Tryz.func170, Tryz.ntmps170
    go_wp2
    all_goals go_ret
    all_goals exact ⟨rfl, rfl⟩
end Go.Proofs.YtcfbkfmkjggcdaaGreatDoor.arith
namespace Go.Proofs.YtcfbkfmkjggcdaaGreatDoor.dedup
open Go Go.RowKit
set_option linter.unusedVariables false
variable {α β : Type}

open Classical in
noncomputable def sqTo (κ : α → β) (l : List α) : Nat → List α
  | 0 => []
  | j + 1 => if h : j < l.length then (if ∃ m, ∃ hm : m + 1 = j, κ l[j] = κ (l[m]'(by omega)) then sqTo κ l j else sqTo κ l j ++ [l[j]]) else sqTo κ l j
theorem sq_same {κ : α → β} {l : List α} {m : Nat} (h : m + 1 < l.length) (he : κ l[m + 1] = κ l[m]) : sqTo κ l (m + 2) = sqTo κ l (m + 1) := by
  rw [sqTo, dif_pos h, if_pos ⟨m, rfl, he⟩]
theorem sq_next {κ : α → β} {l : List α} {m : Nat} (h : m + 1 < l.length) (he : κ l[m + 1] ≠ κ l[m]) : sqTo κ l (m + 2) = sqTo κ l (m + 1) ++ [l[m + 1]] := by
  rw [sqTo, dif_pos h, if_neg]
  rintro ⟨m', hm, e⟩
  obtain rfl : m' = m := by omega
  exact he e
theorem sq_one {κ : α → β} {l : List α} (h : 0 < l.length) : sqTo κ l 1 = [l[0]] := by
  rw [sqTo, dif_pos h, if_neg]
  · rfl
  · rintro ⟨m', hm, _⟩
    omega
theorem sq_length (κ : α → β) (l : List α) : ∀ j, (sqTo κ l j).length ≤ j
  | 0 => Nat.le_refl _
  | j + 1 => by
    have ih := sq_length κ l j
    rw [sqTo]
    split
    · split
      · omega
      · simp; omega
    · omega
/-- As long as no element stands beside its like, all of them. -/
theorem sq_take {κ : α → β} {l : List α} : ∀ {j : Nat}, j ≤ l.length → (∀ m (h : m + 1 < l.length), m + 1 < j → κ l[m + 1] ≠ κ l[m]) → sqTo κ l j = l.take j
  | 0, _, _ => rfl
  | 1, h, _ => by
    rw [sq_one (by omega)]
    match l, h with
    | x :: r, _ => rfl
  | j + 2, h, hn => by
    rw [sq_next (by omega) (hn j (by omega) (by omega)), sq_take (j := j + 1) (by omega) (fun m hm hj => hn m hm (by omega))]
    rw [List.take_succ_eq_append_getElem (by omega)]
    simp
theorem sq_map (κ : α → β) (l : List α) : ∀ j, (sqTo κ l j).map κ = sqTo id (l.map κ) j
  | 0 => rfl
  | j + 1 => by
    have ih := sq_map κ l j
    rw [sqTo, sqTo]
    by_cases h : j < l.length
    · rw [dif_pos h, dif_pos (by simpa using h)]
      by_cases he : ∃ m, ∃ hm : m + 1 = j, κ l[j] = κ (l[m]'(by omega))
      · rw [if_pos he, if_pos (by obtain ⟨m, hm, e⟩ := he; exact ⟨m, hm, by simpa using e⟩)]
        exact ih
      · rw [if_neg he, if_neg (by rintro ⟨m, hm, e⟩; exact he ⟨m, hm, by simpa using e⟩), List.map_append, ih]
        simp
    · rw [dif_neg h, dif_neg (by simpa using h)]
      exact ih
theorem sq_sub (κ : α → β) (l : List α) : ∀ j, j ≤ l.length → (sqTo κ l j).Sublist (l.take j)
  | 0, _ => List.nil_sublist _
  | j + 1, h => by
    have ih := sq_sub κ l j (by omega)
    rw [sqTo, dif_pos (by omega), List.take_succ_eq_append_getElem (by omega)]
    split
    · exact ih.trans (List.sublist_append_left _ _)
    · exact ih.append (List.Sublist.refl _)
theorem sq_mem (l : List α) : ∀ j, j ≤ l.length → ∀ y, y ∈ sqTo id l j ↔ y ∈ l.take j
  | 0, _, y => by simp [sqTo]
  | 1, h, y => by
    rw [sq_one (by omega)]
    match l, h with
    | x :: r, _ => simp
  | j + 2, h, y => by
    have ih := sq_mem l (j + 1) (by omega) y
    rw [List.take_succ_eq_append_getElem (by omega), List.mem_append, ← ih]
    by_cases he : l[j + 1] = l[j]
    · rw [sq_same (κ := id) (by omega) he, he]
      constructor
      · exact .inl
      · rintro (h1 | h1)
        · exact h1
        · obtain rfl : y = l[j] := by simpa using h1
          refine (sq_mem l (j + 1) (by omega) _).2 ?_
          rw [List.take_succ_eq_append_getElem (by omega)]
          exact List.mem_append.2 (.inr (List.mem_singleton.2 rfl))
    · rw [sq_next (κ := id) (by omega) he, List.mem_append]
theorem sq_asc {lt : α → α → Bool} (o : Ord lt) {l : List α} (hw : l.Pairwise fun a b => lt b a = false) : ∀ j, j ≤ l.length → Asc lt (sqTo id l j)
  | 0, _ => List.Pairwise.nil
  | 1, h => by rw [sq_one (by omega)]; exact List.pairwise_singleton _ _
  | j + 2, h => by
    have ih := sq_asc o hw (j + 1) (by omega)
    by_cases he : l[j + 1] = l[j]
    · rw [sq_same (κ := id) (by omega) he]; exact ih
    · rw [sq_next (κ := id) (by omega) he]
      refine List.pairwise_append.2 ⟨ih, List.pairwise_singleton _ _, fun a ha b hb => ?_⟩
      obtain rfl : b = l[j + 1] := by simpa using hb
      rw [sq_mem l (j + 1) (by omega)] at ha
      obtain ⟨i, hi, rfl⟩ := List.getElem_of_mem ha
      have hi1 : i < j + 1 := by rw [List.length_take] at hi; omega
      rw [List.getElem_take]
      rw [List.pairwise_iff_getElem] at hw
      have hlt : lt l[j] l[j + 1] = true := by
        cases hc : lt l[j] l[j + 1] with
        | true => rfl
        | false => exact absurd (o.tot _ _ hc (hw j (j + 1) (by omega) (by omega) (by omega))).symm he
      by_cases e : i = j
      · subst e; exact hlt
      · have h3 := hw i j (by omega) (by omega) (by omega)
        cases hc : lt l[i] l[j] with
        | true => exact o.tr _ _ _ hc hlt
        | false =>
          have := o.tot _ _ hc h3
          rw [this]; exact hlt
/-- Sorted, then without repetitions: each element once, in order. -/
theorem sq_dsort {lt : α → α → Bool} (o : Ord lt) {l d : List α} (hp : List.Perm d l) (hw : d.Pairwise fun a b => lt b a = false) : sqTo id d d.length = dsort lt l :=
  dsort_is o l _ (sq_asc o hw _ (Nat.le_refl _)) fun y => by rw [sq_mem d _ (Nat.le_refl _), List.take_length]; exact hp.mem_iff
/-- Where the second loop of slices.CompactFunc stands: j elements seen, kk kept. -/
structure Comp (κ : α → β) (l : List α) (j kk : Nat) (dk : List α) : Prop where
  len : dk.length = l.length
  out : dk.take kk = sqTo κ l j
  klen : (sqTo κ l j).length = kk
  lt : kk < j
  le : j ≤ l.length
  high : ∀ i (h : i < dk.length) (h2 : i < l.length), j ≤ i + 1 → dk[i] = l[i]
theorem Comp.start {κ : α → β} {l : List α} {m : Nat} (h : m + 1 < l.length) (hn : ∀ q (h : q + 1 < l.length), q + 1 < m + 1 → κ l[q + 1] ≠ κ l[q]) (he : κ l[m + 1] = κ l[m]) : Comp κ l (m + 2) (m + 1) l := by
  have e : sqTo κ l (m + 2) = l.take (m + 1) := by rw [sq_same h he, sq_take (by omega) hn]
  exact ⟨rfl, e.symm, by rw [e, List.length_take]; omega, by omega, by omega, fun i _ _ _ => rfl⟩
theorem Comp.skip {κ : α → β} {l dk : List α} {m kk : Nat} (c : Comp κ l (m + 1) kk dk) (h : m + 1 < l.length) (he : κ l[m + 1] = κ l[m]) : Comp κ l (m + 2) kk dk := by
  have e := sq_same h he
  exact ⟨c.len, by rw [e]; exact c.out, by rw [e]; exact c.klen, by have := c.lt; omega, by omega, fun i h1 h2 h3 => c.high i h1 h2 (by omega)⟩
theorem Comp.keep {κ : α → β} {l dk : List α} {m kk : Nat} (c : Comp κ l (m + 1) kk dk) (h : m + 1 < l.length) (he : κ l[m + 1] ≠ κ l[m]) : Comp κ l (m + 2) (kk + 1) (dk.set kk l[m + 1]) := by
  have e := sq_next h he
  have h1 := c.lt
  have h2 := c.len
  refine ⟨by simp [h2], ?_, by rw [e, List.length_append, c.klen]; rfl, by omega, by omega, fun i i1 i2 i3 => ?_⟩
  · rw [e, ← c.out, List.take_succ_eq_append_getElem (by simp; omega), List.getElem_set_self]
    congr 1
    rw [List.take_set_of_le (by omega)]
  · rw [List.getElem_set_ne (by omega)]
    exact c.high i _ i2 (by omega)
theorem sq_all {κ : α → β} {l : List α} (hn : ∀ q (h : q + 1 < l.length), κ l[q + 1] ≠ κ l[q]) : sqTo κ l l.length = l := by
  rw [sq_take (Nat.le_refl _) (fun q h _ => hn q h), List.take_length]
end Go.Proofs.YtcfbkfmkjggcdaaGreatDoor.dedup
