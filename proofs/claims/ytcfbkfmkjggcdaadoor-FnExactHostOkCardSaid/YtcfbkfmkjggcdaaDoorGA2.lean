/- Merged: IdI NmI GrB CmpI. -/
import Derived.Test.YtcfbkfmkjggcdaaDoorGA1
import Derived.Test.YtcfbkfmkjggcdaaDoorShelf
import Derived.Shelf.Strings.SlTrimAscii
import Derived.ProofKit
import Derived.Sort.Grow
namespace Go.Proofs.YtcfbkfmkjggcdaaDoor.lab
open Go.ChangeShapes Go.WideShapes Go.ChangeAt Go.RowKit
set_option linter.unusedVariables false

theorem trim_any (s cs : ByteArray) (w : World) (hs : s.size ≤ 9223372036854775807) (hcs : cs.size < 4294967281) (ha : ∀ (j : Nat) b, cs.data.toList[j]? = some b → b.toNat < 128) :
    Calls Tryd.prog 75 #[.string s, .string cs] w fun e w' => e = .returned (.string ⟨(Lib.trimS s.data.toList cs.data.toList).toArray⟩) ∧ Below w.heap.size w w' :=
  Any.strings_Trim_laid Tryd.lays160 (by kernel_rfl) s cs w hs hcs ha
theorem mk_same {s : ByteArray} {l : List UInt8} : ((⟨l.toArray⟩ : ByteArray) = s) ↔ l = s.data.toList := by
  constructor
  · rintro rfl; rfl
  · rintro rfl; apply ByteArray.ext; apply Array.ext'; rfl
theorem tl_data (s : ByteArray) : s.toList = s.data.toList := ByteArray.toList_eq s
theorem ascii_app {a b : ByteArray} (h1 : ∀ (j : Nat) c, a.data.toList[j]? = some c → c.toNat < 128) (h2 : ∀ (j : Nat) c, b.data.toList[j]? = some c → c.toNat < 128) :
    ∀ (j : Nat) c, (a ++ b).data.toList[j]? = some c → c.toNat < 128 := by
  intro j c h
  have e : (a ++ b).data.toList = a.data.toList ++ b.data.toList := by simp
  rw [e] at h
  rcases List.mem_append.1 (List.mem_of_getElem? h) with h | h
  · obtain ⟨i, hi, rfl⟩ := List.getElem_of_mem h
    exact h1 i _ (List.getElem?_eq_getElem hi)
  · obtain ⟨i, hi, rfl⟩ := List.getElem_of_mem h
    exact h2 i _ (List.getElem?_eq_getElem hi)

set_option maxRecDepth 100000 in
set_option maxHeartbeats 4000000 in
theorem impl_id (s : ByteArray) (most : Nat) (ls ms : ByteArray) (w : World) (hs : s.size ≤ 9223372036854775807) (hm : most ≤ 100) (hls : ls.size ≤ 100) (hms : ms.size ≤ 100)
    (h1 : ∀ (j : Nat) b, ls.data.toList[j]? = some b → b.toNat < 128) (h2 : ∀ (j : Nat) b, ms.data.toList[j]? = some b → b.toNat < 128) :
    Calls Tryd.prog 51 #[.string s, .int .i64 most, .string ls, .string ms] w fun e w' => e = .returned (.bool (yes (IdP most ls.data.toList ms.data.toList s))) ∧ Below w.heap.size w w' := by
  obtain ⟨R, hR⟩ : ∃ R, yes (IdP most ls.data.toList ms.data.toList s) = R := ⟨_, rfl⟩
  rw [hR]
  have Hno : Hid (¬ IdP most ls.data.toList ms.data.toList s → R = false) := fun h => by rw [← hR]; exact yes_f h
  have Hyes : Hid (IdP most ls.data.toList ms.data.toList s → R = true) := fun h => by rw [← hR]; exact yes_t h
  have HT1 := Lib.hid (fun w => trim_any s ms w hs (by omega) h2)
  have HT2 := Lib.hid (fun w => trim_any s (ls ++ ms) w hs (by rw [ByteArray.size_append]; omega) (ascii_app h1 h2))
  have hap : (ls ++ ms).data.toList = ls.data.toList ++ ms.data.toList := by simp
  rw [hap] at HT2
  have hsum : ¬ 9223372036854775807 < ls.size + ms.size := by omega
  clear hR h1 h2 hap
  by_cases h0 : s.size = 0
  · have Hf := Lib.hid (Hno.out fun h => by have := h.1; omega)
    have he : (s.toList == []) = true := by
      have : s.toList.length = 0 := by rw [tl_data, size_l]; exact h0
      rw [List.eq_nil_of_length_eq_zero this]; rfl
    clear Hno Hyes HT1 HT2 h0 hls hms
    go_enter Tryd.func51, Tryd.ntmps51
    go_wp2_with fail
    go_ret
    exact ⟨by rw [Hf.out]; rfl, Below.refl _ _⟩
  have he : (s.toList == []) = false := by
    rw [beq_eq_false_iff_ne]
    intro e
    apply h0
    rw [← size_l, ← tl_data, e]; rfl
  by_cases hl : most < s.size
  · have Hf := Lib.hid (Hno.out fun h => by have := h.2.1; omega)
    clear Hno Hyes HT1 HT2 h0 hls hms
    go_enter Tryd.func51, Tryd.ntmps51
    go_wp2_with fail
    go_ret
    exact ⟨by rw [Hf.out]; rfl, Below.refl _ _⟩
  by_cases ht : Lib.trimS s.data.toList ms.data.toList = s.data.toList
  case neg =>
    have Hf := Lib.hid (Hno.out fun h => ht h.2.2.1)
    generalize Lib.trimS s.data.toList ms.data.toList = t at HT1 ht
    have hne : (t == s.toList) = false := beq_eq_false_iff_ne.2 (by rw [tl_data]; exact ht)
    clear Hno Hyes HT2 h0 hls hms ht
    go_enter Tryd.func51, Tryd.ntmps51
    go_wp2_with fail
    refine (HT1.out _).mono ?_
    rintro e w1 ⟨rfl, hb⟩
    go_wp2_with fail
    go_ret
    exact ⟨by rw [Hf.out]; rfl, hb⟩
  have Hmk := Lib.hid (fun (h3 : Lib.trimS s.data.toList (ls.data.toList ++ ms.data.toList) = []) => Hyes.out ⟨by omega, by omega, ht, h3⟩)
  have Hno2 := Lib.hid (fun (h3 : ¬ Lib.trimS s.data.toList (ls.data.toList ++ ms.data.toList) = []) => Hno.out fun h => h3 h.2.2.2)
  generalize Lib.trimS s.data.toList ms.data.toList = t at HT1 ht
  have hne : (t == s.toList) = true := beq_iff_eq.2 (by rw [tl_data]; exact ht)
  clear ht Hno Hyes h0 hls hms
  generalize Lib.trimS s.data.toList (ls.data.toList ++ ms.data.toList) = u at HT2 Hmk Hno2
  by_cases hu : u = []
  · have Hf := Lib.hid (Hmk.out hu)
    subst hu
    clear Hmk Hno2
    go_enter Tryd.func51, Tryd.ntmps51
    go_wp2_with fail
    refine (HT1.out _).mono ?_
    rintro e w1 ⟨rfl, hb⟩
    go_wp2_with fail
    refine (HT2.out _).mono ?_
    rintro e w2 ⟨rfl, hb2⟩
    go_wp2_with fail
    go_ret
    exact ⟨by rw [Hf.out]; rfl, hb.trans (hb2.mono hb.size)⟩
  · have Hf := Lib.hid (Hno2.out hu)
    have hne2 : (u == []) = false := beq_eq_false_iff_ne.2 hu
    clear Hmk Hno2 hu
    go_enter Tryd.func51, Tryd.ntmps51
    go_wp2_with fail
    refine (HT1.out _).mono ?_
    rintro e w1 ⟨rfl, hb⟩
    go_wp2_with fail
    refine (HT2.out _).mono ?_
    rintro e w2 ⟨rfl, hb2⟩
    go_wp2_with fail
    go_ret
    exact ⟨by rw [Hf.out]; rfl, hb.trans (hb2.mono hb.size)⟩
theorem impl_key (s : ByteArray) (w : World) (hs : s.size ≤ 9223372036854775807) :
    Calls Tryd.prog 76 #[.string s] w fun e w' => e = .returned (.bool (yes (KeyP s))) ∧ Below w.heap.size w w' := by
  have H := Lib.hid (impl_id s 30 ⟨allL.toArray⟩ ⟨#[45, 95, 46, 47]⟩ w hs (by decide) (by decide) (by decide) (ascii_of_all (by decide)) (ascii_of_all (by decide)))
  have e : yes (IdP 30 (⟨allL.toArray⟩ : ByteArray).data.toList (⟨#[45, 95, 46, 47]⟩ : ByteArray).data.toList s) = yes (KeyP s) := by
    congr 1; exact propext (key_iff s).symm
  rw [e] at H
  clear e
  generalize yes (KeyP s) = R at H
  unfold allL lowL at H
  go_enter Tryd.func76, Tryd.ntmps76
  go_wp2_with fail
  refine H.out.mono ?_
  rintro e w1 ⟨rfl, hb⟩
  go_wp2_with fail
  go_ret
  exact ⟨rfl, hb⟩
theorem impl_val (s : ByteArray) (w : World) (hs : s.size ≤ 9223372036854775807) :
    Calls Tryd.prog 77 #[.string s] w fun e w' => e = .returned (.bool (yes (ValP s))) ∧ Below w.heap.size w w' := by
  have H := Lib.hid (impl_id s 20 ⟨allL.toArray⟩ ⟨#[45, 95, 46]⟩ w hs (by decide) (by decide) (by decide) (ascii_of_all (by decide)) (ascii_of_all (by decide)))
  by_cases h0 : s.size = 0
  · have Hf := Lib.hid (yes_t (p := ValP s) (.inl h0))
    have he : (s.toList == []) = true := by
      have : s.toList.length = 0 := by rw [tl_data, size_l]; exact h0
      rw [List.eq_nil_of_length_eq_zero this]; rfl
    clear H h0
    go_enter Tryd.func77, Tryd.ntmps77
    go_wp2_with fail
    go_ret
    exact ⟨by rw [Hf.out]; rfl, Below.refl _ _⟩
  have he : (s.toList == []) = false := by
    rw [beq_eq_false_iff_ne]
    intro e
    apply h0
    rw [← size_l, ← tl_data, e]; rfl
  have e : yes (IdP 20 (⟨allL.toArray⟩ : ByteArray).data.toList (⟨#[45, 95, 46]⟩ : ByteArray).data.toList s) = yes (ValP s) := by
    congr 1
    refine propext ?_
    rw [val_iff]
    constructor
    · exact fun h => .inr h
    · rintro (h | h)
      · exact absurd h h0
      · exact h
  rw [e] at H
  clear e h0
  generalize yes (ValP s) = R at H
  unfold allL lowL at H
  go_enter Tryd.func77, Tryd.ntmps77
  go_wp2_with fail
  refine H.out.mono ?_
  rintro e w1 ⟨rfl, hb⟩
  go_wp2_with fail
  go_ret
  exact ⟨rfl, hb⟩
end Go.Proofs.YtcfbkfmkjggcdaaDoor.lab
namespace Go.Proofs.YtcfbkfmkjggcdaaDoor.lab
open Go.ChangeShapes Go.WideShapes Go.ChangeAt Go.RowKit
set_option linter.unusedVariables false

theorem impl_name (s : ByteArray) (w : World) (hs : s.size ≤ 9223372036854775807) :
    Calls Tryd.prog 26 #[.string s] w fun e w' => e = .returned (.bool (yes (NameP s))) ∧ Below w.heap.size w w' := by
  have H := Lib.hid (impl_id s 20 ⟨lowL.toArray⟩ ⟨#[45]⟩ w hs (by decide) (by decide) (by decide) (ascii_of_all (by decide)) (ascii_of_all (by decide)))
  have e : yes (IdP 20 (⟨lowL.toArray⟩ : ByteArray).data.toList (⟨#[45]⟩ : ByteArray).data.toList s) = yes (NameP s) := by
    congr 1; exact propext (name_iff s).symm
  rw [e] at H
  clear e
  generalize yes (NameP s) = R at H
  unfold lowL at H
  go_enter Tryd.func26, Tryd.ntmps26
  go_wp2_with fail
  refine H.out.mono ?_
  rintro e w1 ⟨rfl, hb⟩
  go_wp2_with fail
  go_ret
  exact ⟨rfl, hb⟩
end Go.Proofs.YtcfbkfmkjggcdaaDoor.lab
namespace Go.Proofs.YtcfbkfmkjggcdaaDoor
open Go Go.RowKit
set_option linter.unusedVariables false

def Gr (w w' : World) : Prop := ∃ q os, w' = Sort.grow (w.drewN q) os
theorem Gr.refl (w : World) : Gr w w := ⟨0, #[], by rw [Sort.grow_empty]; rfl⟩
theorem Gr.trans {a b c : World} (h : Gr a b) (k : Gr b c) : Gr a c := by
  obtain ⟨q, os, rfl⟩ := h
  obtain ⟨q', os', rfl⟩ := k
  refine ⟨q + q', os ++ os', ?_⟩
  show Sort.grow (Sort.grow ((a.drewN q).drewN q') os) os' = _
  rw [Sort.grow_grow, World.drewN_drewN]
theorem Gr.alloc {a w : World} (h : Gr a w) (o : Obj) : Gr a (w.alloc o) := h.trans ⟨0, #[o], by rw [Sort.alloc_eq_grow]; rfl⟩
theorem Gr.drewN {a w : World} (h : Gr a w) (n : Nat) : Gr a (w.drewN n) := h.trans ⟨n, #[], by rw [Sort.grow_empty]⟩
theorem Gr.drew {a w : World} (h : Gr a w) : Gr a w.drew := h.trans ⟨1, #[], by rw [Sort.grow_empty]; rfl⟩
theorem Gr.below {w w' : World} (h : Gr w w') : Below w.heap.size w w' := by
  obtain ⟨q, os, rfl⟩ := h
  refine ⟨rfl, rfl, rfl, ?_, fun k hk => ?_⟩
  · show w.heap.size ≤ (w.heap ++ os).size
    simp
  · show (w.heap ++ os)[k]? = w.heap[k]?
    rw [Array.getElem?_append_left hk]
structure GrBy (w : World) where
  v : World
  h : Gr w v
def GrBy.start (w : World) : GrBy w := ⟨w.drewN 1, (Gr.refl w).drewN 1⟩
instance (w : World) : Inhabited (GrBy w) := ⟨GrBy.start w⟩
theorem wp_region_quiet_gr {P : Program} {id : Nat} {Q : Exit → Act → World → Prop} {a : Act} {w : World} {l : List Oper} (hm : P.follows .mixedOrders = true) (hB : Region.lexB .any l.toArray = true)
    (h : wpQuiet P l.toArray (fun w' => ∃ p : GrBy w, w' = p.v) (fun a' => ∀ w', (∃ p : GrBy w, w' = p.v) → Q .normal a' w') l a) : (Code.region id l.toArray true).wp P Q a w :=
  wp_region_quiet (C := fun w' => ∃ p : GrBy w, w' = p.v) hm hB ⟨GrBy.start w, rfl⟩ (by simpa using h)
theorem GrBy.cell {w : World} {a : Addr} {v : Value} (hb : a.block < w.heap.size) (h : w.cell? a = some v) (p : GrBy w) : p.v.cell? a = some v :=
  (World.cell?_of_block (p.h.below.block _ hb)).trans h
/-- A callee's contract, met in a world of the class. -/
theorem Calls.gr_of {P : Program} {f : FuncId} {args : Array Value} {w : World} {p : GrBy w} {v : Value}
    (h : Calls P f args p.v fun e w' => e = .returned v ∧ Gr p.v w') : Calls P f args p.v fun e w'' => e = .returned v ∧ ∃ q : GrBy w, w'' = q.v :=
  h.mono fun _ w' ⟨he, hw⟩ => ⟨he, ⟨w', p.h.trans hw⟩, rfl⟩
/-- A contract in the finer form gives the coarser one. -/
theorem gr_below {P : Program} {f : FuncId} {args : Array Value} {w : World} {E : Ending} (h : Calls P f args w fun e w' => e = E ∧ Gr w w') : Calls P f args w fun e w' => e = E ∧ Below w.heap.size w w' :=
  h.mono fun _ _ ⟨he, hg⟩ => ⟨he, hg.below⟩
theorem drew_gr {P : Program} {f : FuncId} {args : Array Value} {w : World} {E : Ending} (h : Calls P f args w fun e w' => e = E ∧ ∃ n, w' = w.drewN n) : Calls P f args w fun e w' => e = E ∧ Gr w w' :=
  h.mono fun _ _ ⟨he, n, hn⟩ => ⟨he, by rw [hn]; exact (Gr.refl w).drewN n⟩
end Go.Proofs.YtcfbkfmkjggcdaaDoor
namespace Go.Proofs.YtcfbkfmkjggcdaaDoor.arith
open Go.ChangeShapes Go.WideShapes Go.ChangeAt Go.RowKit
set_option linter.unusedVariables false

theorem impl_cmp (a b : Int) (w : World) :
    Calls Tryd.prog 81 #[.int .i64 a, .int .i64 b] w fun e w' => e = .returned (.int .i64 (cmpF a b)) ∧ w = w' := by
  have hc : (if a < b then (-1 : Int) else if b < a then 1 else 0) = cmpF a b := rfl
  by_cases h1 : a < b
  · rw [if_pos h1] at hc
    rw [← hc]; clear hc
    go_enter Tryd.func81, Tryd.ntmps81
    go_wp2
    all_goals go_ret
    all_goals exact ⟨rfl, rfl⟩
  by_cases h2 : b < a
  · rw [if_neg h1, if_pos h2] at hc
    rw [← hc]; clear hc
    go_enter Tryd.func81, Tryd.ntmps81
    go_wp2
    all_goals go_ret
    all_goals exact ⟨rfl, rfl⟩
  · rw [if_neg h1, if_neg h2] at hc
    rw [← hc]; clear hc
    go_enter Tryd.func81, Tryd.ntmps81
    go_wp2
    all_goals go_ret
    all_goals exact ⟨rfl, rfl⟩
end Go.Proofs.YtcfbkfmkjggcdaaDoor.arith
