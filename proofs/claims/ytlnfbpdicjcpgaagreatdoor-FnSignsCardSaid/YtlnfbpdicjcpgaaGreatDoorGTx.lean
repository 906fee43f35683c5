/- Merged: FtB TxtS TxtI. -/
import Derived.Test.YtlnfbpdicjcpgaaGreatDoorGSgM
import Derived.Test.YtlnfbpdicjcpgaaGreatDoorRows
import Derived.ProofKit
import Derived.OpenShut
import Derived.Laws.ResultCell
import Derived.Laws.Rows
import Derived.Laws.Tables
import Derived.Test.YtlnfbpdicjcpgaaGreatDoorRnAtS
import Derived.Test.YtlnfbpdicjcpgaaGreatDoorRnAtI
import Derived.Test.YtlnfbpdicjcpgaaGreatDoorShelf
import Derived.Shelf.Strings.SlTrimAscii
namespace Go.Proofs.YtlnfbpdicjcpgaaGreatDoor.sign
open Go.ChangeShapes Go.WideShapes Go.ChangeAt Go.RowKit
set_option linter.unusedVariables false

def fC (f : Ft) : Array Value := #[.int .i64 f.code, .int .i64 f.at_, .string f.path]
def fV (f : Ft) : Value := .agg (fC f)
def f0 : Ft := ⟨0, 0, ⟨#[]⟩⟩
theorem fault_info : (Tryz.prog.info? 32).map (·.size) = some 3 := by kernel_rfl
theorem fault_one (k a : Int) (p : ByteArray) : (#[.int .i64 k, .int .i64 a, .string p] : Array Value).all (·.oneCell') = true := by simp [Value.oneCell']
theorem ret_all {fn : Func} {c u : Tmp} {tmps : Array Value} {w : World} {g : Nat} {f : Ft} {v : Value} (h : fn.results = #[.tmp u, .cell c 32])
    (hu : tmps.getD u undef = v) (hc : tmps.getD c undef = .pointer (some ⟨g, 0, none⟩)) (hg : w.heap[g]? = some (.cells (fC f) 32 (0, 0))) :
    (results fn tmps).run Tryz.prog w = .ok (.tuple #[v, fV f]) w := by
  have hl := run_loadVar_row (P := Tryz.prog) w g _ 32 (fC f) (0, 0) _ hg Tryz.underlying32 rfl fault_info
  have hu' : tmps[u]?.getD undef = v := by simpa using hu
  have hc' : tmps[c]?.getD undef = .pointer (some ⟨g, 0, none⟩) := by simpa using hc
  simp [results, h, hu', hc', asAddr, hl, fV]
theorem three_cells {w : World} {g : Nat} {a b c : Value} {t : TypeId} (h : w.heap[g]? = some (.cells #[a, b, c] t (0, 0))) :
    (w.cell? ⟨g, 0, none⟩ = some a ∧ w.cell? ⟨g, 1, none⟩ = some b ∧ w.cell? ⟨g, 2, none⟩ = some c) ∧ w.frozen? ⟨g, 0, none⟩ = false ∧ w.frozen? ⟨g, 1, none⟩ = false ∧ w.frozen? ⟨g, 2, none⟩ = false := by
  refine ⟨⟨?_, ?_, ?_⟩, ?_, ?_, ?_⟩
  · rw [cell_of_row w g 0 _ t (0, 0) h]; rfl
  · rw [cell_of_row w g 1 _ t (0, 0) h]; rfl
  · rw [cell_of_row w g 2 _ t (0, 0) h]; rfl
  all_goals unfold World.frozen?; rw [h]; rfl
theorem set_three {w : World} {g : Nat} {a b c : Value} {t : TypeId} (h : w.heap[g]? = some (.cells #[a, b, c] t (0, 0))) (x y z : Value) :
    (((w.setCell ⟨g, 0, none⟩ x).setCell ⟨g, 1, none⟩ y).setCell ⟨g, 2, none⟩ z).heap[g]? = some (.cells #[x, y, z] t (0, 0)) := by
  simp [World.setCell, Array.getElem?_modify, h]
theorem TryzinfoS : (Tryz.prog.info? 37).map (fun i => (i.zero, i.size, i.bytes)) = some (some (.agg #[.int .i64 0, .string ⟨#[]⟩, .int .i64 0, .int .i64 0]), 4, 40) := by kernel_rfl
theorem info4 {P : Program} {T : TypeId} {z : Value} {n b : Nat} (h : (P.info? T).map (fun i => (i.zero, i.size, i.bytes)) = some (some z, n, b)) : ∃ i, P.info? T = some i ∧ i.zero = some z ∧ i.size = n ∧ i.bytes = b := by
  cases hi : P.info? T with
  | none => rw [hi] at h; cases h
  | some i =>
    rw [hi] at h
    simp only [Option.map_some, Option.some.injEq, Prod.mk.injEq] at h
    exact ⟨i, rfl, h.1, h.2.1, h.2.2⟩
theorem own_keeps {w w' : World} {B : Nat} {e : TypeId} {v : Value} {n k : Nat} {xs : List Value} (h : w.ownsRow B e k v n xs) (hb : Below w.heap.size w w') : w'.ownsRow B e k v n xs :=
  h.kept (grown_of_below hb none) (by
    by_cases hv : v.ownBlock = none
    · exact .inl hv
    · exact .inr hv)
theorem own_down {w : World} {B B' : Nat} {e : TypeId} {v : Value} {n k : Nat} {xs : List Value} (h : w.ownsRow B e k v n xs) (hB : B' ≤ B) : w.ownsRow B' e k v n xs := by
  refine ⟨h.1, ?_⟩
  rcases h.2 with h | ⟨g, cap, cur, h1, h2, rest⟩
  · exact .inl h
  · exact .inr ⟨g, cap, cur, h1, by omega, rest⟩
theorem own_setRow {w : World} {B g : Nat} {e : TypeId} {v : Value} {n k : Nat} {xs : List Value} (h : w.ownsRow B e k v n xs) (hg : g < B) (c : Array Value) : (w.setRow g c).ownsRow B e k v n xs := by
  have hgr : w.grownBy (w.setRow g c) (some g) := ⟨rfl, rfl, rfl, by simp [World.setRow], fun k _ hk => setRow_other w g k _ (fun e => hk (by rw [e]))⟩
  refine h.kept hgr ?_
  by_cases hv : v.ownBlock = none
  · exact .inl hv
  · exact .inr (fun e => by have := (h.lt g e).1; omega)
theorem own_none {w : World} {B g : Nat} {e : TypeId} {k : Nat} (hg : B ≤ g) (h : w.heap[g]? = some (.cells #[] e (0, 0))) : w.ownsRow B e k (.slice (some ⟨g, 0, none⟩) 0 0) 0 [] :=
  ⟨by simp, .inr ⟨g, 0, #[], rfl, hg, h, Nat.le_refl _, Nat.zero_le _, by simp, by simp⟩⟩
/-- A block beside the one that grew. -/
theorem heap_grown {w w' : World} {B g : Nat} {e : TypeId} {v : Value} {n k : Nat} {xs : List Value} {o : Obj} (h : w.ownsRow B e k v n xs) (hB : g < B) (hg : w.grownBy w' v.ownBlock) (ho : w.heap[g]? = some o) : w'.heap[g]? = some o := by
  rw [hg.block g (Array.getElem?_eq_some_iff.1 ho).1 (fun hv => by have := (h.lt g hv.symm).1; omega)]
  exact ho
/-- What both return: a list of the call's own, and a fault. -/
def Signs (s : ByteArray) (w : World) (e : Ending) (w' : World) : Prop :=
  ∃ v, e = .returned (.tuple #[v, fV (allF s).2]) ∧ w'.ownsRow w.heap.size 37 4 v (allF s).1.length (rowsL (allF s).1) ∧ Below w.heap.size w w'
end Go.Proofs.YtlnfbpdicjcpgaaGreatDoor.sign
namespace Go.Proofs.YtlnfbpdicjcpgaaGreatDoor.sign
open Go.ChangeShapes Go.WideShapes Go.ChangeAt Go.RowKit
set_option linter.unusedVariables false

def badN (o : Option Nat) : Int := match o with
  | some q => (q : Int)
  | none => -1
set_option maxHeartbeats 4000000 in
set_option maxRecDepth 100000 in
theorem runes_bad (s : ByteArray) (w : World) (hs : s.size ≤ 1048576) :
    Calls Tryz.prog 17 #[.string s] w fun e w' => e = .returned (.int .i64 (badN (badAt s 0))) ∧ Below w.heap.size w w' := by
  obtain ⟨R, hR⟩ : ∃ R, badAt s 0 = R := ⟨_, rfl⟩
  rw [hR]
  have HR := Lib.hid hR
  clear hR
  go_enter Tryz.func17, Tryz.ntmps17
  go_wp2_with fail
  go_loopw [3] (fun i wr => ∃ p : Nat, i = .int .i64 p ∧ p ≤ s.size ∧ Hid (badAt s p = R) ∧ Hid (Below w.heap.size w wr)) (fun i _ => s.size - (intOf i).toNat)
  case atStart => exact ⟨0, rfl, Nat.zero_le _, HR, Below.refl _ _⟩
  case round =>
    clear HR
    obtain ⟨p, rfl, hp, hbad, Hb⟩ := hrel
    by_cases hlt : p < s.size
    · have HA := Lib.hid (rune.spec_at s p wr (by unfold maxLen; omega))
      unfold rune.AtRes at HA
      by_cases hn : (rune.atF s (p : Int)).2 < 0
      · have HRv := Lib.hid (hbad.out.symm.trans (bad_here hlt hn))
        clear hbad
        generalize rune.atF s (p : Int) = r at HA hn
        obtain ⟨x, y⟩ := r
        have hn' : y < 0 := hn
        clear hn
        go_wp2_with fail
        refine HA.out.mono ?_
        rintro e w3 ⟨rfl, hb3⟩
        have hb := Hb.out.trans (hb3.mono Hb.out.size)
        clear HA hb3
        go_wp2_with fail
        go_ret
        exact ⟨by rw [HRv.out]; rfl, hb⟩
      · obtain ⟨n, hi, he⟩ := rune.at_next hn
        have hpos := rune.enc_pos n
        have hle := hi.2.1
        rw [he] at HA
        have Hn : Hid (badAt s (p + (rune.enc n).length) = R) := by
          unfold Hid
          rw [← hbad.out]
          exact (bad_go hlt (by rw [he]) (by omega)).symm
        generalize hq : p + (rune.enc n).length = q at HA Hn hle
        have hpq : p < q := by omega
        clear hbad hn hi he hq hpos
        go_wp2_with fail
        refine HA.out.mono ?_
        rintro e w3 ⟨rfl, hb3⟩
        have Hb' := Lib.hid (Hb.out.trans (hb3.mono Hb.out.size))
        clear HA hb3
        go_wp2_with fail
        go_roundw
        case rel => exact ⟨q, rfl, hle, Hn, Hb'⟩
        case measure => simp [intOf]; omega
    · have HRv := Lib.hid (hbad.out.symm.trans (bad_end (by omega)))
      clear hbad
      go_wp2_with fail
      go_ret
      exact ⟨by rw [HRv.out]; rfl, Hb.out⟩
end Go.Proofs.YtlnfbpdicjcpgaaGreatDoor.sign
namespace Go.Proofs.YtlnfbpdicjcpgaaGreatDoor.sign
open Go.ChangeShapes Go.WideShapes Go.ChangeAt Go.RowKit
set_option linter.unusedVariables false

theorem trim_list : ∀ l : List UInt8, Lib.trimLeftS l [32, 9, 10, 13] = l.drop (l.takeWhile isB).length
  | [] => rfl
  | b :: r => by
    have ih := trim_list r
    have e : ([32, 9, 10, 13] : List UInt8).contains b = isB b := by
      have h := (by decide +kernel : ∀ n : Fin 256, ([32, 9, 10, 13] : List UInt8).contains (UInt8.ofNat n.val) = isB (UInt8.ofNat n.val)) ⟨b.toNat, b.toNat_lt⟩
      simpa using h
    unfold Lib.trimLeftS at ih ⊢
    rw [List.dropWhile_cons, e, List.takeWhile_cons]
    split
    · rw [ih, List.length_cons, List.drop_succ_cons]
    · rfl
theorem blanks_any (s : ByteArray) (p : Nat) (w : World) (hs : s.size ≤ 1048576) (hp : p ≤ s.size) :
    Calls Tryz.prog 16 #[.string s, .int .i64 p] w fun e w' => e = .returned (.int .i64 (skip s p)) ∧ Below w.heap.size w w' := by
  have h := Any.strings_TrimLeft_laid Tryz.lays161 (by kernel_rfl) (s.extract p s.size) ⟨#[32, 9, 10, 13]⟩ w (by decide) (ascii_of_all (by decide))
  have hl : (s.extract p s.size).data.toList = s.data.toList.drop p := by
    rw [ByteArray.data_extract, Array.toList_extract, List.extract_eq_take_drop]
    apply List.take_of_length_le
    simp
  obtain ⟨t, ht⟩ : ∃ t : ByteArray, t = ⟨(Lib.trimLeftS (s.extract p s.size).data.toList (⟨#[32, 9, 10, 13]⟩ : ByteArray).data.toList).toArray⟩ := ⟨_, rfl⟩
  have hz : t.size + skip s p = s.size := by
    rw [ht]
    show (Lib.trimLeftS (s.extract p s.size).data.toList [32, 9, 10, 13]).toArray.size + _ = _
    have h1 := (List.takeWhile_prefix isB (l := s.data.toList.drop p)).length_le
    have e : s.data.toList.length = s.size := by simp
    rw [List.length_drop, e] at h1
    rw [List.size_toArray, hl, trim_list, List.length_drop, List.length_drop, e]
    unfold skip
    omega
  have HT : Hid (∀ (_ : True), Calls Tryz.prog 38 #[.string (s.extract p s.size), .string ⟨#[32, 9, 10, 13]⟩] w fun e w' => e = .returned (.string t) ∧ Below w.heap.size w w') := by
    intro _
    rw [ht]
    exact h
  obtain ⟨q, hq⟩ : ∃ q, skip s p = q := ⟨_, rfl⟩
  rw [hq] at hz ⊢
  have ec : (s.size : Int) - (t.size : Int) = (q : Int) := by omega
  clear h ht hl hq
  go_enter Tryz.func16, Tryz.ntmps16
  go_wp2_with fail
  refine (HT.out trivial).mono ?_
  rintro e w1 ⟨rfl, hb⟩
  go_wp2_with fail
  go_ret
  exact ⟨rfl, hb⟩

/-- The fault that a text has whatever it means; code 0: none. -/
noncomputable def textF (s : ByteArray) : Ft := if 20000 < s.size then ⟨1, 0, ⟨#[]⟩⟩ else match badAt s 0 with
  | some q => ⟨2, q, ⟨#[]⟩⟩
  | none => f0
theorem text_long {s : ByteArray} (h : 20000 < s.size) : textF s = ⟨1, 0, ⟨#[]⟩⟩ := if_pos h
theorem text_bad {s : ByteArray} {q : Nat} (h : ¬ 20000 < s.size) (h2 : badAt s 0 = some q) : textF s = ⟨2, q, ⟨#[]⟩⟩ := by unfold textF; rw [if_neg h, h2]
theorem text_ok {s : ByteArray} (h : ¬ 20000 < s.size) (h2 : badAt s 0 = none) : textF s = f0 := by unfold textF; rw [if_neg h, h2]
set_option maxHeartbeats 4000000 in
set_option maxRecDepth 100000 in
theorem text_fault (s : ByteArray) (w : World) (hs : s.size ≤ 1048576) (hT : rune.Tabs w) :
    Calls Tryz.prog 15 #[.string s] w fun e w' => e = .returned (fV (textF s)) ∧ Below w.heap.size w w' := by
  have hg : (w.alloc (.cells (fC f0) 32)).heap[w.heap.size]? = some (.cells (fC f0) 32 (0, 0)) := heap_alloc_new w _
  have Hb := Lib.hid ((Below.refl w.heap.size w).alloc (Nat.le_refl _) (.cells (fC f0) 32))
  by_cases h1 : 20000 < s.size
  · have hR := Lib.hid (text_long h1)
    clear hT
    go_enter Tryz.func15, Tryz.ntmps15
    go_wp2_with (first | (refine wpList_store_row rfl 32 _ _ rfl w.heap.size #[.int .i64 1, .int .i64 0, .string ⟨#[]⟩] rfl rfl 32 _ hg fault_info rfl (fault_one _ _ _) ?_) | fail)
    refine bodyPost_ret (v := fV ⟨1, 0, ⟨#[]⟩⟩) ?_ rfl ⟨by rw [hR.out], setRow_below Hb.out (Nat.le_refl _) _⟩
    exact results_cell_row rfl _ _ w.heap.size _ (fC ⟨1, 0, ⟨#[]⟩⟩) (0, 0) _ rfl (setRow_at hg) Tryz.underlying32 rfl fault_info
  have HN : Hid (badAt s 0 = none → textF s = f0) := fun h => text_ok h1 h
  have HY : Hid (∀ q, badAt s 0 = some q → textF s = ⟨2, q, ⟨#[]⟩⟩) := fun q h => text_bad h1 h
  have HT := Lib.hid hT
  have Hg := Lib.hid hg
  clear hT hg
  go_enter Tryz.func15, Tryz.ntmps15
  go_wp2_with fail
  go_loopw [3] (fun i wr => ∃ p : Nat, i = .int .i64 p ∧ p ≤ s.size ∧ Hid (badAt s p = badAt s 0) ∧ Hid (wr.heap[w.heap.size]? = some (.cells (fC f0) 32 (0, 0))) ∧ Hid (Below w.heap.size w wr)) (fun i _ => s.size - (intOf i).toNat)
  case atStart => exact ⟨0, rfl, Nat.zero_le _, rfl, Hg, Hb⟩
  case round =>
    clear Hg Hb
    obtain ⟨p, rfl, hp, hbad, Hg, Hb⟩ := hrel
    by_cases hlt : p < s.size
    · have HA := Lib.hid (rune.impl_at s p wr (by unfold maxLen; omega) (HT.out.below Hb.out))
      by_cases hn : (rune.atF s (p : Int)).2 < 0
      · have HR := Lib.hid (HY.out p (hbad.out.symm.trans (bad_here hlt hn)))
        clear hbad
        generalize rune.atF s (p : Int) = r at HA hn
        obtain ⟨x, y⟩ := r
        have hn' : y < 0 := hn
        clear hn
        go_wp2_with fail
        refine HA.out.mono ?_
        rintro e w3 ⟨rfl, hb3⟩
        have hb := Hb.out.trans (hb3.mono Hb.out.size)
        have hg := heap_kept hb3 (Array.getElem?_eq_some_iff.1 Hg.out).1 Hg.out
        clear HA hb3
        go_wp2_with (first | (refine wpList_store_row rfl 32 _ _ rfl w.heap.size #[.int .i64 2, .int .i64 p, .string ⟨#[]⟩] rfl rfl 32 _ hg fault_info rfl (fault_one _ _ _) ?_) | fail)
        refine bodyPost_ret (v := fV ⟨2, p, ⟨#[]⟩⟩) ?_ rfl ⟨by rw [HR.out], setRow_below hb (Nat.le_refl _) _⟩
        exact results_cell_row rfl _ _ w.heap.size _ (fC ⟨2, p, ⟨#[]⟩⟩) (0, 0) _ rfl (setRow_at hg) Tryz.underlying32 rfl fault_info
      · obtain ⟨n, hi, he⟩ := rune.at_next hn
        have hpos := rune.enc_pos n
        have hle := hi.2.1
        rw [he] at HA
        have Hn : Hid (badAt s (p + (rune.enc n).length) = badAt s 0) := by
          unfold Hid
          rw [← hbad.out]
          exact (bad_go hlt (by rw [he]) (by omega)).symm
        generalize hq : p + (rune.enc n).length = q at HA Hn hle
        have hpq : p < q := by omega
        clear hbad hn hi he hq hpos
        go_wp2_with fail
        refine HA.out.mono ?_
        rintro e w3 ⟨rfl, hb3⟩
        have Hb' := Lib.hid (Hb.out.trans (hb3.mono Hb.out.size))
        have Hg' := Lib.hid (heap_kept hb3 (Array.getElem?_eq_some_iff.1 Hg.out).1 Hg.out)
        clear HA hb3
        go_wp2_with fail
        go_roundw
        case rel => exact ⟨q, rfl, hle, Hn, Hg', Hb'⟩
        case measure => simp [intOf]; omega
    · have HR := Lib.hid (HN.out (hbad.out.symm.trans (bad_end (by omega))))
      have hg := Hg.out
      clear hbad
      go_wp2_with (first | (refine wpList_store_row rfl 32 _ _ rfl w.heap.size (fC f0) rfl rfl 32 _ hg fault_info rfl (fault_one _ _ _) ?_) | fail)
      refine bodyPost_ret (v := fV f0) ?_ rfl ⟨by rw [HR.out], setRow_below Hb.out (Nat.le_refl _) _⟩
      exact results_cell_row rfl _ _ w.heap.size _ (fC f0) (0, 0) _ rfl (setRow_at hg) Tryz.underlying32 rfl fault_info
end Go.Proofs.YtlnfbpdicjcpgaaGreatDoor.sign
