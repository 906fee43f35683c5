/- impl.unknownKey, impl.KnownKeys. -/
import Derived.Test.YtangdmjdjiddcaaDoorIndexI
import Derived.Test.YtangdmjdjiddcaaDoorPathKeyI
import Derived.Test.YtangdmjdjiddcaaDoorFaultOfI
import Derived.Test.YtangdmjdjiddcaaDoorGA3
namespace Go.Proofs.YtangdmjdjiddcaaDoor.field
open Go.ChangeShapes Go.WideShapes Go.ChangeAt Go.RowKit tree
set_option linter.unusedVariables false

open Classical in
noncomputable def knownLO (ks : List ByteArray) (p : ByteArray) : List ByteArray → Option Flt
  | [] => none
  | k :: r => if k ∈ ks then knownLO ks p r else some (13, pathKey p k)
noncomputable def knownO (t : T) (p : ByteArray) (ks : List ByteArray) : Option Flt := if t.kind ≠ 6 then some (11, p) else knownLO ks p t.keys
theorem knownLO_flt (ks : List ByteArray) (p : ByteArray) : ∀ l, flt (knownLO ks p l) = knownL ks p l
  | [] => rfl
  | k :: r => by
    rw [knownLO, knownL]
    by_cases h : k ∈ ks
    · rw [if_pos h, if_pos h, knownLO_flt ks p r]
    · rw [if_neg h, if_neg h]
      rfl
theorem known_flt (t : T) (p : ByteArray) (ks : List ByteArray) : flt (knownO t p ks) = knownF t p ks := by
  unfold knownO knownF
  by_cases h : t.kind ≠ 6
  · rw [if_pos h, if_pos h]
    rfl
  · rw [if_neg h, if_neg h, knownLO_flt]
theorem knownO_all {ks : List ByteArray} {p : ByteArray} : ∀ {l : List ByteArray}, (∀ q (h : q < l.length), l[q] ∈ ks) → knownLO ks p l = none
  | [], _ => rfl
  | k :: r, h => by
    rw [knownLO, if_pos (show k ∈ ks from h 0 (by simp))]
    exact knownO_all fun q hq => h (q + 1) (by simp; omega)
theorem knownO_no {ks : List ByteArray} {p : ByteArray} : ∀ {l : List ByteArray} {j : Nat} (hj : j < l.length), (∀ q (h : q < l.length), q < j → l[q] ∈ ks) → ¬ l[j] ∈ ks → knownLO ks p l = some (13, pathKey p l[j])
  | k :: r, 0, _, _, hn => by
    rw [knownLO, if_neg (by simpa using hn)]
    rfl
  | k :: r, j + 1, hj, h, hn => by
    rw [knownLO, if_pos (show k ∈ ks from h 0 (by simp) (by omega))]
    exact knownO_no (by simpa using hj) (fun q hq hqj => h (q + 1) (by simp; omega) (by omega)) (by simpa using hn)

set_option maxRecDepth 100000 in
set_option maxHeartbeats 16000000 in
theorem impl_unknown {f : Nat} (t : T) (p : ByteArray) (l : List ByteArray) (A : Option Addr) (c : Nat) (vs : List Value) (w : World) (h : LiesS w f vs (row t)) (hw : weight t ≤ 1048576) (hp : p.size ≤ 1048576) (hm : l.length ≤ maxLen) (hr : Rd w A l.length (scells l)) :
    Calls Tryd.prog 41 #[.agg vs.toArray, .string p, .slice A l.length c] w fun e w' => e = .returned (errV (knownO t p l)) ∧ Below w.heap.size w w' := by
  have hkeys := keys_weight t
  obtain ⟨kk, fl, n, s, ks, kids⟩ := t
  obtain ⟨A1, c1, A2, c2, rfl, wk, wn, ws, hc1, hc2, hr1, _, _, _, f', rfl, _⟩ := open_tree h
  unfold maxLen at hc2
  obtain ⟨w1, hw1⟩ : ∃ w1, w1 = w.alloc (.cells #[.int .i64 kk, .bool fl, .int .i64 n, .string s, .slice A1 ks.length c1, .slice A2 kids.length c2] 35) := ⟨_, rfl⟩
  have hb1 : Below w.heap.size w w1 := by subst hw1; exact (Below.refl _ _).alloc (Nat.le_refl _) _
  have h10 : w1.heap[w.heap.size]? = some (.cells #[.int .i64 kk, .bool fl, .int .i64 n, .string s, .slice A1 ks.length c1, .slice A2 kids.length c2] 35 (0, 0)) := by subst hw1; exact heap_alloc_new w _
  have HH := Lib.hid (fun x => impl_contains A c l x w1 hm (hr.below hb1))
  have HP := Lib.hid (fun k w' (hk : k.size ≤ 1048576) => impl_key p k w' hp hk)
  have HF := Lib.hid (fun q c w' => impl_errorAt q c w')
  have Hb1 := Lib.hid hb1
  have Hw1 := Lib.hid hw1
  have Hr := Lib.hid (hr1.below hb1)
  have Hks := Lib.hid (show ∀ x ∈ ks, x.size ≤ 1048576 from fun x hx => Nat.le_trans (hkeys x hx) hw)
  obtain ⟨p0, p1, p2, p3, p4, p5⟩ := Row6.of h10
  have Hrow := Lib.hid (Row6.of h10)
  rw [Hw1.out] at p0 p1 p2 p3 p4 p5
  obtain ⟨R, hR⟩ : ∃ R, knownO (.mk kk fl n s ks kids) p l = R := ⟨_, rfl⟩
  rw [hR]
  unfold knownO at hR
  have HR := Lib.hid hR
  clear h h10 hb1 hw1 hR hw hm hr hr1 hkeys
  by_cases h6 : kk = 6
  case neg =>
    have hE : R = some (11, p) := HR.out.symm.trans (if_pos (by simpa [T.kind] using h6))
    subst hE
    have e6 : (kk != 6) = true := by simpa using h6
    clear HR
    go_enter Tryd.func41, Tryd.ntmps41
    go_wp2_with fail
    rw [← Hw1.out]
    refine (HF.out _ _ _).mono ?_
    rintro e w5 ⟨rfl, hb5⟩
    have Hb5 := Lib.hid (below_link Hb1.out hb5 Hb1.out.size)
    clear hb5
    go_wp2_with fail
    go_ret
    exact ⟨rfl, Hb5.out⟩
  subst h6
  have HK := Lib.hid (show knownLO l p ks = R from (if_neg (by simp [T.kind])).symm.trans HR.out)
  clear HR
  go_enter Tryd.func41, Tryd.ntmps41
  go_wp2_with fail
  rw [← Hw1.out]
  clear p0 p1 p2 p3 p4 p5 Hw1
  obtain ⟨p0, p1, p2, p3, p4, p5⟩ := Hrow.out
  go_loop [17] (fun i => ∃ j : Nat, j ≤ ks.length ∧ i = .int .i64 j ∧ Hid (∀ q (hl : q < ks.length), q < j → ks[q] ∈ l)) (fun i => ks.length - (intOf i).toNat)
  case atStart => exact ⟨0, Nat.zero_le _, rfl, fun q hl hq => by omega⟩
  case round =>
    obtain ⟨j, hj, rfl, hall⟩ := hrel
    by_cases hlt : j < ks.length
    · obtain ⟨g, o, rfl, hg, hc0⟩ := Hr.out.2 (by omega)
      have q0 := hc0 j hlt _ (scells_get ks j hlt)
      by_cases he : ks[j] ∈ l
      · have hi := inL_t he
        have Hs := Lib.hid he
        clear he hc0 hg
        have HX := Lib.hid (HH.out ks[j])
        generalize ks[j] = x at q0 hi HX
        go_wp2_with fail
        refine HX.out.mono ?_
        rintro e w4 ⟨rfl, rfl⟩
        rw [hi]
        go_wp2_with fail
        go_round
        case rel => exact ⟨j + 1, by omega, by go_num, fun q hl hq => by
          by_cases e : q = j
          · subst e; exact Hs.out
          · exact hall.out q hl (by omega)⟩
        case measure => simp [intOf]; omega
      · have hi := inL_f he
        have HE := Lib.hid (HK.out.symm.trans (knownO_no hlt hall.out he))
        have hks := Hks.out _ (List.getElem_mem hlt)
        clear he hc0 hg
        have HX := Lib.hid (HH.out ks[j])
        generalize ks[j] = x at q0 hi HX HE hks
        have HP2 := Lib.hid (fun w' => HP.out x w' hks)
        generalize pathKey p x = at_ at HP2 HE
        have hE := HE.out
        subst hE
        clear HE HK
        go_wp2_with fail
        refine HX.out.mono ?_
        rintro e w4 ⟨rfl, rfl⟩
        rw [hi]
        go_wp2_with fail
        refine (HP2.out _).mono ?_
        rintro e w4 ⟨rfl, rfl⟩
        go_wp2_with fail
        refine (HF.out _ _ _).mono ?_
        rintro e w5 ⟨rfl, hb5⟩
        have Hb5 := Lib.hid (below_link Hb1.out hb5 Hb1.out.size)
        clear hb5
        go_wp2_with fail
        go_ret
        exact ⟨rfl, Hb5.out⟩
    · obtain rfl : j = ks.length := by omega
      have hE : R = none := HK.out.symm.trans (knownO_all fun q hq => hall.out q hq hq)
      subst hE
      clear hall HK
      go_wp2_with fail
      go_ret
      exact ⟨rfl, Hb1.out⟩

set_option maxRecDepth 100000 in
set_option maxHeartbeats 16000000 in
theorem impl_known {f : Nat} (t : T) (p : ByteArray) (l : List ByteArray) (A : Option Addr) (c : Nat) (vs : List Value) (w : World) (h : LiesS w f vs (row t)) (hw : weight t ≤ 1048576) (hp : p.size ≤ 1048576) (hln : l.length ≤ 1048576) (hr : Rd w A l.length (scells l)) (hE : ET w) :
    Calls Tryd.prog 16 #[.agg vs.toArray, .string p, .slice A l.length c] w fun e w' => e = .returned (fv (knownF t p l)) ∧ Below w.heap.size w w' := by
  obtain ⟨u0, u1, u2, u3, u4, u5, rfl⟩ := six_of (h.1.trans (row_length t))
  obtain ⟨w1, hw1⟩ : ∃ w1, w1 = w.alloc (.cells #[u0, u1, u2, u3, u4, u5] 35) := ⟨_, rfl⟩
  obtain ⟨w2, hw2⟩ : ∃ w2, w2 = w1.alloc (.cells #[.int .i64 0, .int .i64 0, .string ⟨#[]⟩] 31) := ⟨_, rfl⟩
  have s1 : w1.heap.size = w.heap.size + 1 := by rw [hw1]; simp
  have hb2 : Below w.heap.size w w2 := by subst hw2; subst hw1; exact ((Below.refl _ _).alloc (Nat.le_refl _) _).alloc (by simp) _
  have h20 : w2.heap[w.heap.size]? = some (.cells #[u0, u1, u2, u3, u4, u5] 35 (0, 0)) := by subst hw2; subst hw1; rw [Below.heap_alloc _ _ _ (by simp)]; exact heap_alloc_new w _
  have h21 : w2.heap[w.heap.size + 1]? = some (.cells #[.int .i64 0, .int .i64 0, .string ⟨#[]⟩] 31 (0, 0)) := by subst hw2; rw [← s1]; exact heap_alloc_new w1 _
  have HI := Lib.hid (impl_unknown t p l A c _ w2 (h.below hb2) hw hp (by unfold maxLen; omega) (hr.below hb2))
  rw [← known_flt]
  have HO := Lib.hid (fun o w' (hb : Below w.heap.size w w') => impl_faultOf o w' (hE.below hb))
  generalize knownO t p l = o at HI ⊢
  have HO := Lib.hid (HO.out o)
  generalize errV o = ev at HI HO
  generalize flt o = g at HO ⊢
  obtain ⟨gc, gq⟩ := g
  have Hw1 := Lib.hid hw1
  have Hw2 := Lib.hid hw2
  have Hb2 := Lib.hid hb2
  have H21 := Lib.hid h21
  obtain ⟨p0, p1, p2, p3, p4, p5⟩ := Row6.of h20
  rw [Hw2.out, Hw1.out] at p0 p1 p2 p3 p4 p5
  clear h hw hw1 hw2 hb2 h20 h21 hp hE hr hln s1
  go_enter Tryd.func16, Tryd.ntmps16
  go_wp2_with fail
  rw [← Hw1.out, ← Hw2.out]
  refine HI.out.mono ?_
  rintro e w3 ⟨rfl, hb3⟩
  have Hb3 := Lib.hid (below_link Hb2.out hb3 Hb2.out.size)
  have H31 := Lib.hid (heap_kept hb3 (heap_lt H21.out) H21.out)
  have HO3 := Lib.hid (HO.out w3 Hb3.out)
  clear HI hb3 p0 p1 p2 p3 p4 p5 HO
  go_wp2_with fail
  refine HO3.out.mono ?_
  rintro e w4 ⟨rfl, hb4⟩
  have Hb4 := Lib.hid (below_link Hb3.out hb4 Hb3.out.size)
  have H41 := Lib.hid (heap_kept hb4 (heap_lt H31.out) H31.out)
  clear HO3 hb4 H31 H21
  go_wp2_with (first | (refine wpList_store_row rfl 31 _ _ rfl (w.heap.size + 1) #[.int .i64 gc, .int .i64 0, .string gq] rfl rfl 31 _ H41.out sizeFault rfl (by simp [Value.oneCell']) ?_) | fail)
  refine bodyPost_ret (v := fv (gc, gq)) ?_ rfl ⟨rfl, setRow_below Hb4.out (by omega) _⟩
  exact results_cell_row rfl _ _ (w.heap.size + 1) _ _ (0, 0) _ rfl (setRow_at H41.out) Tryd.underlying31 rfl sizeFault
end Go.Proofs.YtangdmjdjiddcaaDoor.field
