/- Merged: CopyNI CopNeedC CopToleranceC CopyPI. -/
import Derived.Test.YtcfbkfmkjggcdaaGreatDoorGA19
import Derived.Test.YtcfbkfmkjggcdaaGreatDoorGA16
import Derived.Test.YtcfbkfmkjggcdaaGreatDoorGA10
import Derived.Test.YtcfbkfmkjggcdaaGreatDoorValsS
import Derived.OwnWalk
import Derived.Laws.Cover1
import Derived.Test.YtcfbkfmkjggcdaaGreatDoorGA24
import Derived.Test.YtcfbkfmkjggcdaaGreatDoorGA3
import Derived.Test.YtcfbkfmkjggcdaaGreatDoorGA12
import Derived.Test.YtcfbkfmkjggcdaaGreatDoorGA7
import Derived.Test.YtcfbkfmkjggcdaaGreatDoorGA6
import Derived.Deep.WholeRow
namespace Go.Proofs.YtcfbkfmkjggcdaaGreatDoor.need
open Go.ChangeShapes Go.WideShapes Go.ChangeAt Go.RowKit ty lab
set_option linter.unusedVariables false

theorem TryzinfoStrC : (Tryz.prog.info? 9).map (fun i => (i.zero, i.size, i.bytes)) = some (some (.string ⟨#[]⟩), 1, 16) := by kernel_rfl
theorem lies_one {w : World} {f : Nat} {v : Value} {d : C} (h : Lies w f v d) : v.oneCell' = true := by
  cases f with
  | zero => exact h.elim
  | succ f =>
    cases d with
    | int k n => obtain ⟨rfl, _⟩ := h; rfl
    | bool b => obtain rfl := h; rfl
    | str s => obtain ⟨rfl, _⟩ := h; rfl
    | sl k n cs => obtain ⟨A, c, rfl, _⟩ := h; rfl
/-- The raw cells of a slice of requirements that came in. -/
theorem raw_of {w : World} {f c : Nat} {A : Option Addr} {l : List Need} (h : Lies w f (.slice A l.length c) (.sl 3 l.length (l.flatMap Need.row))) : ∃ f' xs, RdK w A l.length 3 xs ∧ LiesS w f' xs (l.flatMap Need.row) := by
  obtain ⟨A', c', hA, h1, h2, hl, f', rfl, hc⟩ := h.sl
  injection hA with a1 _ a3
  subst a1 a3
  by_cases h0 : l.length = 0
  · have e : l = [] := List.eq_nil_of_length_eq_zero h0
    subst e
    exact ⟨f', [], ⟨rfl, fun h => absurd h (by simp)⟩, LiesS.nil⟩
  obtain ⟨g, o, rfl, hg, hcc⟩ := hc (by omega)
  have hone : ∀ i, i < (l.flatMap Need.row).length → ∃ u : Value, w.cell? ⟨g, o + i, none⟩ = some u ∧ ∃ d, (l.flatMap Need.row)[i]? = some d ∧ Lies w f' u d := fun i hi => by
    obtain ⟨u, hu, hl⟩ := hcc i _ (List.getElem?_eq_getElem hi)
    exact ⟨u, hu, _, List.getElem?_eq_getElem hi, hl⟩
  obtain ⟨q, hq⟩ := Go.Deep.choose_lt hone
  refine ⟨f', (List.range (l.flatMap Need.row).length).map q, ⟨by rw [List.length_map, List.length_range, hl], fun _ => ⟨g, o, rfl, hg, fun j u hu => ?_⟩⟩, by simp, fun m u d hu hd => ?_⟩
  · have hi : j < (l.flatMap Need.row).length := by have := (List.getElem?_eq_some_iff.1 hu).1; simpa using this
    simp only [List.getElem?_map, List.getElem?_range hi, Option.map_some, Option.some.injEq] at hu
    rw [← hu]
    exact (hq j hi).1
  · have hi : m < (l.flatMap Need.row).length := (List.getElem?_eq_some_iff.1 hd).1
    simp only [List.getElem?_map, List.getElem?_range hi, Option.map_some, Option.some.injEq] at hu
    rw [← hu]
    obtain ⟨_, d', e, hl⟩ := hq m hi
    rw [e] at hd
    injection hd with hd
    exact hd ▸ hl
/-- One element of them. -/
theorem raw_el {w : World} {f : Nat} {xs : List Value} {l : List Need} (h : LiesS w f xs (l.flatMap Need.row)) {j : Nat} (hj : j < l.length) :
    ∃ A2 c2, xs[j * 3]? = some (.string l[j].key) ∧ xs[j * 3 + 1]? = some (.int .i64 l[j].op) ∧ xs[j * 3 + 2]? = some (.slice A2 l[j].values.length c2) ∧ l[j].Wf ∧ Lies w f (.slice A2 l[j].values.length c2) (.sl 1 l[j].values.length (l[j].values.flatMap Str.row)) := by
  have hlen : xs.length = l.length * 3 := by rw [h.1, flat_length' Need.row_length]
  have hd : ∀ i, i < 3 → (l.flatMap Need.row)[j * 3 + i]? = l[j].row[i]? := fun i hi => flat_get' Need.row_length l j i _ (List.getElem?_eq_getElem hj) hi
  have hu : ∀ i (hi : i < 3), xs[j * 3 + i]? = some (xs[j * 3 + i]'(by omega)) := fun i hi => List.getElem?_eq_getElem (by omega)
  have k0 := h.2 (j * 3 + 0) _ _ (hu 0 (by omega)) (by rw [hd 0 (by omega)]; rfl)
  have k1 := h.2 (j * 3 + 1) _ _ (hu 1 (by omega)) (by rw [hd 1 (by omega)]; rfl)
  have k2 := h.2 (j * 3 + 2) _ _ (hu 2 (by omega)) (by rw [hd 2 (by omega)]; rfl)
  obtain ⟨e0, w0⟩ := k0.str
  obtain ⟨e1, w1⟩ := k1.int
  have k2' := k2
  obtain ⟨A2, c2, e2, n2, m2, _⟩ := k2'.sl
  rw [e2] at k2
  refine ⟨A2, c2, ?_, ?_, ?_, ⟨w0, w1⟩, k2⟩
  · have := hu 0 (by omega); rw [e0] at this; exact this
  · have := hu 1 (by omega); rw [e1] at this; exact this
  · have := hu 2 (by omega); rw [e2] at this; exact this
set_option maxRecDepth 1000000 in
set_option maxHeartbeats 16000000 in
theorem impl_copyN (l : List Need) (f : Nat) (v : Value) (w : World) (h : Lies w f v (.sl 3 l.length (l.flatMap Need.row))) (hw : l.length + wsum Need.wt l ≤ 1048576) :
    Calls Tryz.prog 96 #[v] w fun e w' => ∃ g c, e = .returned (.slice (some ⟨g, 0, none⟩) l.length c) ∧ OwnRowC w' w.heap.size 2 69 3 (.slice (some ⟨g, 0, none⟩) l.length c) l.length (l.flatMap Need.row) ∧ Below w.heap.size w w' := by
  obtain ⟨A, c, rfl, hc1, hc2, f9, rfl, hk⟩ := els_of Need.row_length h
  have hc2m := hc2
  unfold maxLen at hc2
  obtain ⟨f', raw, hrd, hls⟩ := raw_of h
  obtain ⟨i1, hi1, hy0, hy1, hy2⟩ := info_parts TryzinfoStrC
  have hN := vcnt_le l l.length
  have Hk := Lib.hid hk
  have Hl := Lib.hid hls
  have HC := Lib.hid (fun w' (hb : Below w.heap.size w w') => impl_cofNeed l A c raw w' hc1 hc2 (hrd.below hb) (fun u hu => by
    obtain ⟨m, hm, rfl⟩ := List.getElem_of_mem hu
    exact lies_one (hls.2 m _ _ (List.getElem?_eq_getElem hm) (List.getElem?_eq_getElem (by have := hls.1; omega)))) (by omega))
  have Hmono := Lib.hid (fun j (hj : j ≤ l.length) => vcnt_mono l j hj)
  have hn : l.length ≤ 1048576 := by omega
  obtain ⟨N, hNN⟩ : ∃ N, N = vcnt l l.length := ⟨_, rfl⟩
  rw [← hNN] at hN Hmono
  have hN2 : N ≤ 1048576 := by omega
  have HN := Lib.hid hNN
  clear h hrd hls hw hN hk hNN hc2m
  go_enter Tryz.func96, Tryz.ntmps96
  go_wp2_with fail
  go_loopw [3, 12] (fun a i wr => ∃ j : Nat, j ≤ l.length ∧ i = .int .i64 j ∧ a = .int .i64 (vcnt l j : Nat) ∧ Below w.heap.size w wr) (fun _ i _ => l.length - (intOf i).toNat)
  case atStart => exact ⟨0, Nat.zero_le _, rfl, by rw [vcnt_zero]; rfl, Below.refl _ _⟩
  case round =>
    obtain ⟨j, hj, rfl, rfl, hbel⟩ := hrel
    have Hbel := Lib.hid hbel
    by_cases hlt : j < l.length
    · obtain ⟨g, o, A2, c2, rfl, q0, q1, q2, _⟩ := el_at Hk.out hbel hlt
      have q0 := q0 ⟨wr, Below.refl _ _⟩
      have q1 := q1 ⟨wr, Below.refl _ _⟩
      have q2 := q2 ⟨wr, Below.refl _ _⟩
      simp only at q0 q1 q2
      have hnx := vcnt_next hlt
      have hm1 := Hmono.out (j + 1) hlt
      have Hnx := Lib.hid hnx
      rw [hnx] at hm1
      have HB := Lib.hid (Box.new 69 wr [.string l[j].key, .int .i64 l[j].op, .slice A2 l[j].values.length c2])
      have p2 := HB.out.cell (j := 2) rfl
      have Hb2 := Lib.hid (below_link hbel HB.out.1 hbel.size)
      clear hbel hnx
      generalize vcnt l j = s1 at *
      generalize l[j].key = xk at *
      generalize l[j].op = xo at *
      generalize l[j].values.length = xn at *
      go_wp2_with fail
      go_roundw
      case rel => exact ⟨j + 1, by omega, by go_num, by rw [Hnx.out]; go_num, Hb2.out⟩
      case measure => simp [intOf]; omega
    · obtain rfl : j = l.length := by omega
      rw [← HN.out]
      clear hbel
      go_wp2_with (first | (at_make; refine wpList_make_full _ rfl _ _ 67 rfl w.heap.size 9 i1 (.string ⟨#[]⟩) 1 Tryz.underlying67 hi1 hy0 hy1 .i64 .i64 (N : Int) (N : Int) N rfl rfl rfl rfl (by rw [hy2]; omega) (by unfold maxLen; omega) Hbel.out.size ?_) | fail)
      intro w3 hown3 hg3
      have hb3 : Below wr.heap.size wr w3 := ⟨hg3.os, hg3.tape, hg3.output, hg3.size, fun k hk => hg3.block k hk (by simp)⟩
      have hbl3 := below_link Hbel.out hb3 Hbel.out.size
      obtain ⟨cur, hcur, hcl⟩ : ∃ cur : List Value, w3.heap[wr.heap.size]? = some (.cells cur.toArray 9 (0, 0)) ∧ cur.length = N := by
        rcases hown3.2 with ⟨h0, _⟩ | ⟨g', cap, cur, hv, k1, k2, k3, k4, k5, k6⟩
        · cases h0
        · injection hv with hv _ hc
          injection hv with hv
          injection hv with hv
          subst hv hc
          exact ⟨cur.toList, by simpa using k2, by simpa using k5⟩
      have Hcur := Lib.hid (And.intro hcur hcl)
      have Hb3 := Lib.hid hbl3
      have Hr := Lib.hid (And.intro (show w.heap.size ≤ wr.heap.size from Hbel.out.size) (show wr.heap.size < w3.heap.size from heap_lt hcur))
      obtain ⟨r, hr⟩ : ∃ r, wr.heap.size = r := ⟨_, rfl⟩
      rw [hr] at Hcur Hr ⊢
      clear hown3 hg3 hb3 hbl3 hcur hcl hr Hbel
      go_wp2_with fail
      refine (HC.out _ Hb3.out).mono ?_
      rintro e w4 ⟨x, c1, rfl, hown4, hb4⟩
      have hx := hown4.lt x rfl
      have hCp : Cp w 69 9 x c1 r N l raw 0 raw [] cur w4 := by
        refine ⟨own_lower' hown4 Hb3.out.size, rfl, by simpa using OwnCS.nil, List.nodup_nil, fun p hp => by simp at hp, heap_kept hb4 Hr.out.2 Hcur.out.1, Hcur.out.2, fun e => ?_, Hr.out.1, below_link Hb3.out hb4 Hb3.out.size⟩
        have := Hr.out.2
        omega
      have HCp := Lib.hid hCp
      have hl0 : N = vcnt l 0 + N := by rw [vcnt_zero]; omega
      have Hl0 := Lib.hid hl0
      clear hown4 hb4 hx hCp hl0 HC
      go_wp2_with fail
      go_loopw [6, 28] (fun rest i wr => ∃ (j m o : Nat) (xs : List Value) (F : List Cl) (cur : List Value), j ≤ l.length ∧ i = .int .i64 j ∧ rest = .slice (some ⟨r, o, none⟩) m m ∧ vcnt l j + m = N ∧ Hid (0 < m → o = vcnt l j) ∧ Hid (Cp w 69 9 x c1 r N l raw j xs F cur wr)) (fun _ i _ => l.length - (intOf i).toNat)
      case atStart => exact ⟨0, N, 0, raw, [], cur, Nat.zero_le _, rfl, rfl, Hl0.out.symm, fun _ => (vcnt_zero l).symm, HCp.out⟩
      case round =>
        clear HCp Hl0 Hcur Hb3
        obtain ⟨j, m, o, xs, F, cur2, hj, rfl, rfl, hm, ho, hcp⟩ := hrel
        by_cases hlt : j < l.length
        · obtain ⟨A2, c2, e0, e1, e2, hwf, hlv⟩ := raw_el Hl.out hlt
          rw [← get_of_drop hcp.out.drop 1] at e1
          rw [← get_of_drop hcp.out.drop 2] at e2
          rw [show j * 3 = j * 3 + 0 from rfl, ← get_of_drop hcp.out.drop 0, Nat.add_zero] at e0
          obtain ⟨A', c', hA', hq1, hq2, hr2, hz2⟩ := Str.opened (hlv.below hcp.out.bel)
          injection hA' with a1 _ a3
          subst a1 a3
          have hnx := vcnt_next hlt
          have hm1 := Hmono.out (j + 1) hlt
          rw [hnx] at hm1
          obtain ⟨n, hn⟩ : ∃ n, n = l[j].values.length := ⟨_, rfl⟩
          have hrow := hcp.out.row
          have q2 : wr.cell? ⟨x, j * 3 + 2, none⟩ = some (.slice A2 l[j].values.length c2) := (hrow.cellAt (j * 3 + 2) (by omega)).trans e2
          have hxl := hrow.lt x rfl
          have hne := hcp.out.ne
          have HS := Lib.hid (fun w4 w5 h4 hg4 h5 => Cp.step (w4 := w4) (w5 := w5) (n := n) (A2 := A2) (c2 := c2) hcp.out hlt hn (by omega) e0 e1 (by rw [hn]; exact e2) hwf hz2 (by unfold maxLen; omega) (fun h0 => ho.out (by omega)) h4 hg4 h5)
          have Hblk := Lib.hid (And.intro hcp.out.blk hcp.out.len)
          have Hrd := Lib.hid hr2
          have Hsl := Lib.hid (show (scells l[j].values).length = n by rw [scells_length, hn])
          have Hone := Lib.hid (scells_ones l[j].values)
          have Hrow := Lib.hid hrow
          have Hxl := Lib.hid hxl
          have Ho := Lib.hid (show 0 < n → o = vcnt l j from fun h0 => ho.out (by omega))
          have Hnx := Lib.hid (show vcnt l (j + 1) = vcnt l j + n by rw [hnx, hn])
          rw [← hn] at q2 hr2 Hrd hm1
          have hnm : n ≤ m := by omega
          have Hho := Lib.hid ho.out
          have hsj : vcnt l j ≤ N := by omega
          generalize scells l[j].values = cs at *
          clear hnx hcp e0 e1 e2 hwf hlv hq1 hq2 hr2 hz2 hn hrow hxl ho
          generalize vcnt l j = s1 at *
          have j1 : (0 : Int) ≤ (j : Int) := by omega
          have j2 : (j : Int) < (l.length : Int) := by omega
          have j3 : (0 : Int) ≤ (n : Int) := by omega
          have j4 : (n : Int) ≤ (m : Int) := by omega
          have K1 := Lib.hid (show (Tryz.prog.info? 9).map (·.size) = some 1 by rw [hi1]; simp [hy1])
          have K2 : Hid (cs.length = Nat.min n m) := by unfold Hid; rw [Hsl.out]; exact (Nat.min_eq_left hnm).symm
          have K3 : Hid (0 < cs.length → (some ⟨r, o, none⟩ : Option Addr) = some ⟨r, s1, none⟩ ∧ ∃ ad, A2 = some ad ∧ ∀ j v, cs[j]? = some v → wr.cell? (ad.add j) = some v) := fun h0 => by
            rw [Hsl.out] at h0
            obtain ⟨g, o2, hA, _, hc⟩ := Hrd.out.2 h0
            refine ⟨by rw [Ho.out h0], _, hA, fun i v hv => ?_⟩
            rw [Addr.add_lit]
            exact hc i (by rw [← Hsl.out]; exact (List.getElem?_eq_some_iff.1 hv).1) v hv
          have K4 : Hid (s1 + cs.length ≤ cur2.length) := by unfold Hid; rw [Hsl.out, Hblk.out.2]; omega
          go_wp2_with (first | (refine wpList_copy_grown rfl (.tmp 31) (.tmp 36) 67 67 rfl 9 Tryz.underlying67 K1.out (some ⟨r, o, none⟩) A2 m m n c2 rfl rfl r s1 cur2 9 Hblk.out.1 cs K2.out K3.out K4.out Hone.out ?_) | fail)
          intro w4 h4 hg4
          obtain ⟨w5, hz⟩ : ∃ w5, w4.setCell ⟨x, j * 3 + 2, none⟩ (.slice (some ⟨r, o, none⟩) n n) = w5 := ⟨_, rfl⟩
          obtain ⟨G, hcp5⟩ := HS.out w4 w5 h4 hg4 hz.symm
          have hrow4 := Hrow.out.kept hg4 (.inr (by simp [Value.ownBlock]; exact fun e => hne e.symm))
          have hrl := hrow4.1
          obtain ⟨u4, p4⟩ : ∃ u, w4.cell? ⟨x, j * 3 + 2, none⟩ = some u := ⟨_, (hrow4.cellAt (j * 3 + 2) (by omega)).trans (List.getElem?_eq_getElem (by omega))⟩
          have f4 := hrow4.frozenAt (j * 3 + 2)
          have HC5 := Lib.hid hcp5
          have Hz := Lib.hid hz
          have hcl4 := Hsl.out
          clear h4 hg4 hcp5 hrow4 hrl K1 K2 K3 K4 HS Hblk Hrd Hrow Hxl Hone q2 hne hz
          by_cases hmn : m = n
          · subst hmn
            go_wp2_with fail
            go_roundw
            case rel => exact ⟨j + 1, 0, o, _, _, _, by omega, by go_num, rfl, by rw [Hnx.out]; omega, fun h => absurd h (by omega), (by rw [Hz.out]; exact HC5)⟩
            case measure => simp [intOf]; omega
          · have hmn2 : ¬ n = m := fun e => hmn e.symm
            go_wp2_with fail
            go_roundw
            case rel => exact ⟨j + 1, m - n, o + n, _, _, _, by omega, by go_num, rfl, by rw [Hnx.out]; omega, fun h => by rw [Hnx.out, Hho.out (by omega)], (by rw [Hz.out]; exact HC5)⟩
            case measure => simp [intOf]; omega
        · obtain rfl : j = l.length := by omega
          have HR := Lib.hid (And.intro hcp.out.done hcp.out.bel)
          clear hcp ho
          go_wp2_with fail
          go_ret
          exact ⟨_, _, rfl, HR.out⟩
end Go.Proofs.YtcfbkfmkjggcdaaGreatDoor.need
namespace Go.Proofs.YtcfbkfmkjggcdaaGreatDoor.pod
open Go.ChangeShapes Go.WideShapes Go.ChangeAt Go.RowKit ty lab need
set_option linter.unusedVariables false
theorem impl_copNeed (l : List Need) (f : Nat) (v : Value) (w : World) (h : Lies w f v (.sl 3 l.length (l.flatMap Need.row))) (hw : l.length + wsum Need.wt l ≤ 1048576) :
    Calls Tryz.prog 96 #[v] w fun e w' => CopyOutC w w' e 3 Need.row l := by
  refine (impl_copyN l f v w h hw).mono ?_
  rintro e w1 ⟨g, c, rfl, hrow, hb⟩
  obtain ⟨F, ho, hnd, _⟩ := hrow.own
  exact ⟨_, 2, F, rfl, ho, hnd, hb⟩
end Go.Proofs.YtcfbkfmkjggcdaaGreatDoor.pod
namespace Go.Proofs.YtcfbkfmkjggcdaaGreatDoor.pod
open Go.ChangeShapes Go.WideShapes Go.ChangeAt Go.RowKit ty lab taint
set_option linter.unusedVariables false
theorem impl_copTolerance (l : List Tolerance) (f : Nat) (v : Value) (w : World) (h : Lies w f v (.sl 4 l.length (l.flatMap Tolerance.row))) (hn : l.length ≤ 1048576) :
    Calls Tryz.prog 106 #[v] w fun e w' => CopyOutC w w' e 4 Tolerance.row l := by
  have hwf : ∀ x ∈ l, x.Wf := by
    obtain ⟨A, c, _, _, _, f', rfl, hk⟩ := els_of Tolerance.row_length h
    exact (rdk_Tolerance hk).2
  refine (impl_cofTolerance l f v w h hn).mono ?_
  rintro e w1 ⟨g, c, rfl, hown, hb⟩
  obtain ⟨F, ho, hnd, _⟩ := own_Tolerance hown hwf
  obtain ⟨G, a, b, _⟩ := ho.toC hnd
  exact ⟨_, 1, G, rfl, a, b, hb⟩
end Go.Proofs.YtcfbkfmkjggcdaaGreatDoor.pod
namespace Go.Proofs.YtcfbkfmkjggcdaaGreatDoor.pod
open Go.ChangeShapes Go.WideShapes Go.ChangeAt Go.RowKit ty lab need taint
set_option linter.unusedVariables false
set_option maxRecDepth 100000 in
set_option maxHeartbeats 16000000 in
theorem impl_copyP (x : Pod) (f : Nat) (us : List Value) (w : World) (h : LiesS w f us x.row) (hz : x.wt ≤ 1048576) :
    Calls Tryz.prog 38 #[.agg us.toArray] w fun e w' => AggOutC w x.row e w' := by
  obtain ⟨a0, a1, a2, a3, a4, a5, a6⟩ := x
  obtain ⟨A1, c1, A5, c5, A6, c6, rfl, hwf, k1, m1, l1, k5, m5, l5, k6, m6, l6⟩ := Pod.opened h
  unfold Pod.wt at hz
  simp only at hz hwf k1 m1 l1 k5 m5 l5 k6 m6 l6
  obtain ⟨w1, hw1⟩ : ∃ w1, w1 = (w.alloc (.cells #[.string a0, .slice A1 a1.length c1, .int .i64 a2, .int .i64 a3, .int .i64 a4, .slice A5 a5.length c5, .slice A6 a6.length c6] 28)).alloc (.cells #[.string ⟨#[]⟩, .slice none 0 0, .int .i64 0, .int .i64 0, .int .i64 0, .slice none 0 0, .slice none 0 0] 28) := ⟨_, rfl⟩
  have S0 := Lib.hid (show St2 28 w [.string a0, .slice A1 a1.length c1, .int .i64 a2, .int .i64 a3, .int .i64 a4, .slice A5 a5.length c5, .slice A6 a6.length c6] [.string ⟨#[]⟩, .slice none 0 0, .int .i64 0, .int .i64 0, .int .i64 0, .slice none 0 0, .slice none 0 0] w1 by rw [hw1]; exact St2.new)
  have T1 := Lib.hid (fun w' (hb : Below w.heap.size w w') => impl_copLabel a1 f _ w' (l1.below hb) (by omega))
  have T5 := Lib.hid (fun w' (hb : Below w.heap.size w w') => impl_copNeed a5 f _ w' (l5.below hb) (by omega))
  have T6 := Lib.hid (fun w' (hb : Below w.heap.size w w') => impl_copTolerance a6 f _ w' (l6.below hb) (by omega))
  have Hwf := Lib.hid hwf
  have Hw1 := Lib.hid hw1
  clear h hz hwf hw1 k1 m1 l1 k5 m5 l5 k6 m6 l6
  go_enter Tryz.func38, Tryz.ntmps38
  go_wp2_with fail
  rw [← Hw1.out]
  clear Hw1
  refine (T1.out _ S0.out.bel).mono ?_
  rintro e y1 ⟨v1, f1, F1, rfl, o1, n1, hb1⟩
  obtain ⟨B1, d1, rfl, _, _⟩ := o1.is_slice
  have g1 := o1.range
  have O1_0 : OgC y1 w1.heap.size y1.heap.size (f1 + 1) (.slice B1 a1.length d1) (.sl 2 a1.length (a1.flatMap Label.row)) F1 := ⟨o1, n1, g1⟩
  have Hlt1 := Lib.hid S0.out.lt
  have Hs1 := Lib.hid (show w1.heap.size ≤ y1.heap.size from hb1.size)
  have S1_0 := S0.out.call hb1
  have p1_0 : (y1).cell? ⟨w.heap.size, 1, none⟩ = some (.slice A1 a1.length c1) := S1_0.k0.cell 1 _ rfl
  have f1_0 := RowE.frozen S1_0.k0 1
  have S1_1 : St2 28 w [.string a0, .slice B1 a1.length d1, .int .i64 a2, .int .i64 a3, .int .i64 a4, .slice A5 a5.length c5, .slice A6 a6.length c6] [.string ⟨#[]⟩, .slice none 0 0, .int .i64 0, .int .i64 0, .int .i64 0, .slice none 0 0, .slice none 0 0] ((y1).setCell ⟨w.heap.size, 1, none⟩ (.slice B1 a1.length d1)) := S1_0.put 1 (.slice B1 a1.length d1)
  have O1_1 := OgC.put (j := 1) (u := .slice B1 a1.length d1) O1_0 (show w.heap.size < _ by have := Hlt1.out; omega)
  obtain ⟨z1, hz1⟩ : ∃ z, (y1).setCell ⟨w.heap.size, 1, none⟩ (.slice B1 a1.length d1) = z := ⟨_, rfl⟩
  have hE1 : ((y1).setCell ⟨w.heap.size, 1, none⟩ (.slice B1 a1.length d1)).heap.size = y1.heap.size := by simp only [size_setCell]
  rw [hz1] at S1_1 hE1 O1_1
  have S1 := Lib.hid S1_1
  have HE1 := Lib.hid hE1
  have O1at1 := Lib.hid O1_1
  clear hb1 o1 n1 g1 hE1 S1_0 S1_1 O1_1 O1_0 S0
  have pc5 := S1.out.k0.cell 5 _ rfl
  go_wp2_with fail
  refine (T5.out _ S1.out.bel).mono ?_
  rintro e y5 ⟨v5, f5, F5, rfl, o5, n5, hb5⟩
  obtain ⟨B5, d5, rfl, _, _⟩ := o5.is_slice
  have g5 := o5.range
  have O5_0 : OgC y5 z1.heap.size y5.heap.size (f5 + 1) (.slice B5 a5.length d5) (.sl 3 a5.length (a5.flatMap Need.row)) F5 := ⟨o5, n5, g5⟩
  have Hlt5 := Lib.hid S1.out.lt
  have Hs5 := Lib.hid (show z1.heap.size ≤ y5.heap.size from hb5.size)
  have S5_0 := S1.out.call hb5
  have O1_5_0 := O1at1.out.call hb5
  have p5_0 : (y5).cell? ⟨w.heap.size, 5, none⟩ = some (.slice A5 a5.length c5) := S5_0.k0.cell 5 _ rfl
  have f5_0 := RowE.frozen S5_0.k0 5
  have S5_1 : St2 28 w [.string a0, .slice B1 a1.length d1, .int .i64 a2, .int .i64 a3, .int .i64 a4, .slice B5 a5.length d5, .slice A6 a6.length c6] [.string ⟨#[]⟩, .slice none 0 0, .int .i64 0, .int .i64 0, .int .i64 0, .slice none 0 0, .slice none 0 0] ((y5).setCell ⟨w.heap.size, 5, none⟩ (.slice B5 a5.length d5)) := S5_0.put 5 (.slice B5 a5.length d5)
  have O5_1 := OgC.put (j := 5) (u := .slice B5 a5.length d5) O5_0 (show w.heap.size < _ by have := Hlt5.out; omega)
  have O1_5_1 := OgC.put (j := 5) (u := .slice B5 a5.length d5) O1_5_0 (show w.heap.size < _ by have := Hlt1.out; omega)
  obtain ⟨z5, hz5⟩ : ∃ z, (y5).setCell ⟨w.heap.size, 5, none⟩ (.slice B5 a5.length d5) = z := ⟨_, rfl⟩
  have hE5 : ((y5).setCell ⟨w.heap.size, 5, none⟩ (.slice B5 a5.length d5)).heap.size = y5.heap.size := by simp only [size_setCell]
  rw [hz5] at S5_1 hE5 O5_1 O1_5_1
  have S5 := Lib.hid S5_1
  have HE5 := Lib.hid hE5
  have O5at5 := Lib.hid O5_1
  have O1at5 := Lib.hid O1_5_1
  clear hb5 o5 n5 g5 hE5 S5_0 S5_1 O5_1 O1_5_1 pc5 O5_0 O1_5_0 O1at1 S1
  have pc6 := S5.out.k0.cell 6 _ rfl
  go_wp2_with fail
  refine (T6.out _ S5.out.bel).mono ?_
  rintro e y6 ⟨v6, f6, F6, rfl, o6, n6, hb6⟩
  obtain ⟨B6, d6, rfl, _, _⟩ := o6.is_slice
  have g6 := o6.range
  have O6_0 : OgC y6 z5.heap.size y6.heap.size (f6 + 1) (.slice B6 a6.length d6) (.sl 4 a6.length (a6.flatMap Tolerance.row)) F6 := ⟨o6, n6, g6⟩
  have Hlt6 := Lib.hid S5.out.lt
  have Hs6 := Lib.hid (show z5.heap.size ≤ y6.heap.size from hb6.size)
  have S6_0 := S5.out.call hb6
  have O5_6_0 := O5at5.out.call hb6
  have O1_6_0 := O1at5.out.call hb6
  have p6_0 : (y6).cell? ⟨w.heap.size, 6, none⟩ = some (.slice A6 a6.length c6) := S6_0.k0.cell 6 _ rfl
  have f6_0 := RowE.frozen S6_0.k0 6
  have S6_1 : St2 28 w [.string a0, .slice B1 a1.length d1, .int .i64 a2, .int .i64 a3, .int .i64 a4, .slice B5 a5.length d5, .slice B6 a6.length d6] [.string ⟨#[]⟩, .slice none 0 0, .int .i64 0, .int .i64 0, .int .i64 0, .slice none 0 0, .slice none 0 0] ((y6).setCell ⟨w.heap.size, 6, none⟩ (.slice B6 a6.length d6)) := S6_0.put 6 (.slice B6 a6.length d6)
  have O6_1 := OgC.put (j := 6) (u := .slice B6 a6.length d6) O6_0 (show w.heap.size < _ by have := Hlt6.out; omega)
  have O5_6_1 := OgC.put (j := 6) (u := .slice B6 a6.length d6) O5_6_0 (show w.heap.size < _ by have := Hlt5.out; omega)
  have O1_6_1 := OgC.put (j := 6) (u := .slice B6 a6.length d6) O1_6_0 (show w.heap.size < _ by have := Hlt1.out; omega)
  obtain ⟨z6, hz6⟩ : ∃ z, (y6).setCell ⟨w.heap.size, 6, none⟩ (.slice B6 a6.length d6) = z := ⟨_, rfl⟩
  have hE6 : ((y6).setCell ⟨w.heap.size, 6, none⟩ (.slice B6 a6.length d6)).heap.size = y6.heap.size := by simp only [size_setCell]
  rw [hz6] at S6_1 hE6 O6_1 O5_6_1 O1_6_1
  have S6 := Lib.hid S6_1
  have HE6 := Lib.hid hE6
  have O6at6 := Lib.hid O6_1
  have O5at6 := Lib.hid O5_6_1
  have O1at6 := Lib.hid O1_6_1
  clear hb6 o6 n6 g6 hE6 S6_0 S6_1 O6_1 O5_6_1 O1_6_1 pc6 O6_0 O5_6_0 O1_6_0 O5at5 O1at5 S5
  have h52 := S6.out.k0
  have h51 := S6.out.k1
  unfold RowE at h51 h52
  go_wp2_with (first | (refine wpList_load_row rfl 28 _ rfl w.heap.size rfl 28 #[.string a0, .slice B1 a1.length d1, .int .i64 a2, .int .i64 a3, .int .i64 a4, .slice B5 a5.length d5, .slice B6 a6.length d6] (0, 0) _ h52 Tryz.underlying28 rfl sizePod ?_) | (refine wpList_store_row rfl 28 _ _ rfl (w.heap.size + 1) #[.string a0, .slice B1 a1.length d1, .int .i64 a2, .int .i64 a3, .int .i64 a4, .slice B5 a5.length d5, .slice B6 a6.length d6] rfl rfl 28 _ h51 sizePod rfl (by simp [Value.oneCell']) ?_) | fail)
  obtain ⟨F, ho, hnd, _⟩ := Pod.ownedC (x := ⟨a0, a1, a2, a3, a4, a5, a6⟩) (f := (f1 + f5 + f6)) (w := z6.setRow (w.heap.size + 1) #[.string a0, .slice B1 a1.length d1, .int .i64 a2, .int .i64 a3, .int .i64 a4, .slice B5 a5.length d5, .slice B6 a6.length d6]) Hwf.out (O1at6.out.done (f' := (f1 + f5 + f6) + 1) (B' := w.heap.size) (c := #[.string a0, .slice B1 a1.length d1, .int .i64 a2, .int .i64 a3, .int .i64 a4, .slice B5 a5.length d5, .slice B6 a6.length d6]) (show w.heap.size + 1 < _ by have := HE1.out; have := Hs1.out; have := Hlt1.out; have := HE5.out; have := Hs5.out; have := Hlt5.out; have := HE6.out; have := Hs6.out; have := Hlt6.out; omega) (by have := HE1.out; have := Hs1.out; have := Hlt1.out; have := HE5.out; have := Hs5.out; have := Hlt5.out; have := HE6.out; have := Hs6.out; have := Hlt6.out; omega) (by omega)) (O5at6.out.done (f' := (f1 + f5 + f6) + 1) (B' := w.heap.size) (c := #[.string a0, .slice B1 a1.length d1, .int .i64 a2, .int .i64 a3, .int .i64 a4, .slice B5 a5.length d5, .slice B6 a6.length d6]) (show w.heap.size + 1 < _ by have := HE1.out; have := Hs1.out; have := Hlt1.out; have := HE5.out; have := Hs5.out; have := Hlt5.out; have := HE6.out; have := Hs6.out; have := Hlt6.out; omega) (by have := HE1.out; have := Hs1.out; have := Hlt1.out; have := HE5.out; have := Hs5.out; have := Hlt5.out; have := HE6.out; have := Hs6.out; have := Hlt6.out; omega) (by omega)) (O6at6.out.done (f' := (f1 + f5 + f6) + 1) (B' := w.heap.size) (c := #[.string a0, .slice B1 a1.length d1, .int .i64 a2, .int .i64 a3, .int .i64 a4, .slice B5 a5.length d5, .slice B6 a6.length d6]) (show w.heap.size + 1 < _ by have := HE1.out; have := Hs1.out; have := Hlt1.out; have := HE5.out; have := Hs5.out; have := Hlt5.out; have := HE6.out; have := Hs6.out; have := Hlt6.out; omega) (by have := HE1.out; have := Hs1.out; have := Hlt1.out; have := HE5.out; have := Hs5.out; have := Hlt5.out; have := HE6.out; have := Hs6.out; have := Hlt6.out; omega) (by omega)) O1at6.out.nod O5at6.out.nod O6at6.out.nod (O1at6.out.apart O5at6.out (by have := HE1.out; have := Hs1.out; have := Hlt1.out; have := HE5.out; have := Hs5.out; have := Hlt5.out; have := HE6.out; have := Hs6.out; have := Hlt6.out; omega)) (O1at6.out.apart O6at6.out (by have := HE1.out; have := Hs1.out; have := Hlt1.out; have := HE5.out; have := Hs5.out; have := Hlt5.out; have := HE6.out; have := Hs6.out; have := Hlt6.out; omega)) (O5at6.out.apart O6at6.out (by have := HE1.out; have := Hs1.out; have := Hlt1.out; have := HE5.out; have := Hs5.out; have := Hlt5.out; have := HE6.out; have := Hs6.out; have := Hlt6.out; omega))
  refine bodyPost_ret (v := .agg #[.string a0, .slice B1 a1.length d1, .int .i64 a2, .int .i64 a3, .int .i64 a4, .slice B5 a5.length d5, .slice B6 a6.length d6]) ?_ rfl ⟨_, (f1 + f5 + f6), F, rfl, ho, hnd, setRow_below S6.out.bel (by omega) _⟩
  exact results_cell_row rfl _ _ (w.heap.size + 1) _ _ (0, 0) _ rfl (setRow_at h51) Tryz.underlying28 rfl sizePod
end Go.Proofs.YtcfbkfmkjggcdaaGreatDoor.pod
